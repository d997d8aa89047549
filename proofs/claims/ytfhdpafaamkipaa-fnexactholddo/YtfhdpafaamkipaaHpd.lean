/- A write as what is called later. Made by tools/gen19_hpd.py. -/
import Derived.Test.YtfhdpafaamkipaaHpc
import Derived.Deep.RegionWith
import Derived.Deep.RegionHeld3
import Derived.Laws.EntriesVeiled
namespace Go.Proofs.Ytfhdpafaamkipaa
open Go.RowKit
set_option linter.unusedVariables false
set_option linter.unusedSimpArgs false

/-- What a write holds once it is deferred: its half's place, its byte. -/
def ClosC (V : World) (g lo He x : Nat) (t : Bool) (ch cb : Nat) : Prop := lo ≤ ch ∧ ch < He ∧ lo ≤ cb ∧ cb < He ∧ V.cell? ⟨ch, 0, none⟩ = some (.pointer (some ⟨g, ho t, none⟩)) ∧ V.cell? ⟨cb, 0, none⟩ = some (.int .u8 x)
theorem closA (W : World) (g x : Nat) (t : Bool) (o1 : Obj) (T1 T2 : TypeId) : ClosC (((W.alloc o1).alloc (.cells #[.pointer (some ⟨g, ho t, none⟩)] T1)).alloc (.cells #[.int .u8 x] T2)).drew g W.heap.size (((W.alloc o1).alloc (.cells #[.pointer (some ⟨g, ho t, none⟩)] T1)).alloc (.cells #[.int .u8 x] T2)).drew.heap.size x t (W.heap.size + 1) (W.heap.size + 1 + 1) ∧ Below W.heap.size W (((W.alloc o1).alloc (.cells #[.pointer (some ⟨g, ho t, none⟩)] T1)).alloc (.cells #[.int .u8 x] T2)).drew := by
  obtain ⟨k0, k1, k2, hz, b0⟩ := three_alloc W o1 (.cells #[.pointer (some ⟨g, ho t, none⟩)] T1) (.cells #[.int .u8 x] T2)
  have c1 := cell_of_row _ _ 0 _ _ _ k1
  have c2 := cell_of_row _ _ 0 _ _ _ k2
  have e : (((W.alloc o1).alloc (.cells #[.pointer (some ⟨g, ho t, none⟩)] T1)).alloc (.cells #[.int .u8 x] T2)).drew.heap.size = W.heap.size + 3 := hz
  exact ⟨⟨by omega, by omega, by omega, by omega, c1.trans rfl, c2.trans rfl⟩, b0.drew⟩
theorem closB (W : World) (g x : Nat) (t : Bool) (o1 : Obj) (T1 T2 : TypeId) : ClosC (((W.alloc o1).alloc (.cells #[.int .u8 x] T2)).alloc (.cells #[.pointer (some ⟨g, ho t, none⟩)] T1)).drew g W.heap.size (((W.alloc o1).alloc (.cells #[.int .u8 x] T2)).alloc (.cells #[.pointer (some ⟨g, ho t, none⟩)] T1)).drew.heap.size x t (W.heap.size + 1 + 1) (W.heap.size + 1) ∧ Below W.heap.size W (((W.alloc o1).alloc (.cells #[.int .u8 x] T2)).alloc (.cells #[.pointer (some ⟨g, ho t, none⟩)] T1)).drew := by
  obtain ⟨k0, k1, k2, hz, b0⟩ := three_alloc W o1 (.cells #[.int .u8 x] T2) (.cells #[.pointer (some ⟨g, ho t, none⟩)] T1)
  have c1 := cell_of_row _ _ 0 _ _ _ k1
  have c2 := cell_of_row _ _ 0 _ _ _ k2
  have e : (((W.alloc o1).alloc (.cells #[.int .u8 x] T2)).alloc (.cells #[.pointer (some ⟨g, ho t, none⟩)] T1)).drew.heap.size = W.heap.size + 3 := hz
  exact ⟨⟨by omega, by omega, by omega, by omega, c2.trans rfl, c1.trans rfl⟩, b0.drew⟩
theorem threeB (W : World) (o1 o2 o3 : Obj) : Below W.heap.size W (((W.alloc o1).alloc o2).alloc o3).drew := (three_alloc W o1 o2 o3).2.2.2.2.drew
set_option maxRecDepth 10000 in
set_option maxHeartbeats 4000000 in
theorem act_1 (g : Nat) (t : Bool) (x : Nat) (W : World) (hg : g < W.heap.size) :
    Calls Try.prog 68 #[.pointer (some ⟨g, 0, none⟩), .agg #[.int .i64 1, .int .i64 (sl t), .int .u8 x]] W fun e w' => ∃ ch cb, e = .returned (.func (.func 72) #[] #[.pointer (some ⟨cb, 0, none⟩), .pointer (some ⟨ch, 0, none⟩)]) ∧ ClosC w' g W.heap.size w'.heap.size x t ch cb ∧ Below W.heap.size W w' := by
  have hmf : ∀ (fn : Fn) (first cap : Array Value) (w : World), (Instr.makeFunc fn first cap).run Try.prog w = .ok (.func fn first cap) w := fun _ _ _ _ => rfl
  have HH : Hid (∀ V, W.heap.size < V.heap.size → Calls Try.prog 46 #[.pointer (some ⟨g, 0, none⟩), .int .i64 (sl t)] V fun e w' => e = .returned (.pointer (some ⟨g, ho t, none⟩)) ∧ w' = V) := fun V hv => by
    rw [← hfP_sl]
    exact half_i g (sl t) V (by omega)
  obtain ⟨s, hs⟩ : ∃ s, sl t = s := ⟨_, rfl⟩
  rw [hs] at HH ⊢
  clear hs
  have FA := closA W g x t (.cells #[.int .i64 1, .int .i64 s, .int .u8 x] 42) 71 5
  have FB := closB W g x t (.cells #[.int .i64 1, .int .i64 s, .int .u8 x] 42) 71 5
  have FA : Hid _ := FA
  have FB : Hid _ := FB
  go_enter Try.func68, Try.ntmps68
  go_upto_region 1 with fail
  go_region_held3 (fun w' => w'.cell? ⟨W.heap.size, 1, none⟩ = some (.int .i64 s) ∧ w'.cell? ⟨W.heap.size, 2, none⟩ = some (.int .u8 x))
    (first | go_keep | (simp))
    (first | (go_at_call 46; refine (HH.out _ (by simp <;> omega)).mono ?_; rintro e w1 ⟨rfl, rfl⟩) | fail)
  all_goals
    go_wp2
    go_ret
    first | exact ⟨W.heap.size + 1, W.heap.size + 1 + 1, rfl, FA.out⟩ | exact ⟨W.heap.size + 1 + 1, W.heap.size + 1, rfl, FB.out⟩
set_option maxRecDepth 10000 in
set_option maxHeartbeats 4000000 in
theorem act_2 (g : Nat) (t : Bool) (x : Nat) (W : World) (hg : g < W.heap.size) :
    Calls Try.prog 68 #[.pointer (some ⟨g, 0, none⟩), .agg #[.int .i64 2, .int .i64 (sl t), .int .u8 x]] W fun e w' => ∃ ch cb, e = .returned (.func (.func 73) #[] #[.pointer (some ⟨cb, 0, none⟩), .pointer (some ⟨ch, 0, none⟩)]) ∧ ClosC w' g W.heap.size w'.heap.size x t ch cb ∧ Below W.heap.size W w' := by
  have hmf : ∀ (fn : Fn) (first cap : Array Value) (w : World), (Instr.makeFunc fn first cap).run Try.prog w = .ok (.func fn first cap) w := fun _ _ _ _ => rfl
  have HH : Hid (∀ V, W.heap.size < V.heap.size → Calls Try.prog 46 #[.pointer (some ⟨g, 0, none⟩), .int .i64 (sl t)] V fun e w' => e = .returned (.pointer (some ⟨g, ho t, none⟩)) ∧ w' = V) := fun V hv => by
    rw [← hfP_sl]
    exact half_i g (sl t) V (by omega)
  obtain ⟨s, hs⟩ : ∃ s, sl t = s := ⟨_, rfl⟩
  rw [hs] at HH ⊢
  clear hs
  have FA := closA W g x t (.cells #[.int .i64 2, .int .i64 s, .int .u8 x] 42) 71 5
  have FB := closB W g x t (.cells #[.int .i64 2, .int .i64 s, .int .u8 x] 42) 71 5
  have FA : Hid _ := FA
  have FB : Hid _ := FB
  go_enter Try.func68, Try.ntmps68
  go_upto_region 1 with fail
  go_region_held3 (fun w' => w'.cell? ⟨W.heap.size, 1, none⟩ = some (.int .i64 s) ∧ w'.cell? ⟨W.heap.size, 2, none⟩ = some (.int .u8 x))
    (first | go_keep | (simp))
    (first | (go_at_call 46; refine (HH.out _ (by simp <;> omega)).mono ?_; rintro e w1 ⟨rfl, rfl⟩) | fail)
  all_goals
    go_wp2
    go_ret
    first | exact ⟨W.heap.size + 1, W.heap.size + 1 + 1, rfl, FA.out⟩ | exact ⟨W.heap.size + 1 + 1, W.heap.size + 1, rfl, FB.out⟩
set_option maxRecDepth 10000 in
set_option maxHeartbeats 4000000 in
theorem act_3 (g : Nat) (t : Bool) (x : Nat) (W : World) (hg : g < W.heap.size) :
    Calls Try.prog 68 #[.pointer (some ⟨g, 0, none⟩), .agg #[.int .i64 3, .int .i64 (sl t), .int .u8 x]] W fun e w' => ∃ ch cb, e = .returned (.func (.func 74) #[] #[.pointer (some ⟨ch, 0, none⟩)]) ∧ ClosC w' g W.heap.size w'.heap.size x t ch cb ∧ Below W.heap.size W w' := by
  have hmf : ∀ (fn : Fn) (first cap : Array Value) (w : World), (Instr.makeFunc fn first cap).run Try.prog w = .ok (.func fn first cap) w := fun _ _ _ _ => rfl
  have HH : Hid (∀ V, W.heap.size < V.heap.size → Calls Try.prog 46 #[.pointer (some ⟨g, 0, none⟩), .int .i64 (sl t)] V fun e w' => e = .returned (.pointer (some ⟨g, ho t, none⟩)) ∧ w' = V) := fun V hv => by
    rw [← hfP_sl]
    exact half_i g (sl t) V (by omega)
  obtain ⟨s, hs⟩ : ∃ s, sl t = s := ⟨_, rfl⟩
  rw [hs] at HH ⊢
  clear hs
  have FA := closA W g x t (.cells #[.int .i64 3, .int .i64 s, .int .u8 x] 42) 71 5
  have FB := closB W g x t (.cells #[.int .i64 3, .int .i64 s, .int .u8 x] 42) 71 5
  have FA : Hid _ := FA
  have FB : Hid _ := FB
  go_enter Try.func68, Try.ntmps68
  go_upto_region 1 with fail
  go_region_held3 (fun w' => w'.cell? ⟨W.heap.size, 1, none⟩ = some (.int .i64 s) ∧ w'.cell? ⟨W.heap.size, 2, none⟩ = some (.int .u8 x))
    (first | go_keep | (simp))
    (first | (go_at_call 46; refine (HH.out _ (by simp <;> omega)).mono ?_; rintro e w1 ⟨rfl, rfl⟩) | fail)
  all_goals
    go_wp2
    go_ret
    first | exact ⟨W.heap.size + 1, W.heap.size + 1 + 1, rfl, FA.out⟩ | exact ⟨W.heap.size + 1 + 1, W.heap.size + 1, rfl, FB.out⟩
set_option maxRecDepth 10000 in
set_option maxHeartbeats 4000000 in
theorem act_4 (g : Nat) (t : Bool) (x : Nat) (W : World) (hg : g < W.heap.size) :
    Calls Try.prog 68 #[.pointer (some ⟨g, 0, none⟩), .agg #[.int .i64 4, .int .i64 (sl t), .int .u8 x]] W fun e w' => ∃ ch cb, e = .returned (.func (.func 75) #[] #[.pointer (some ⟨ch, 0, none⟩), .pointer (some ⟨cb, 0, none⟩)]) ∧ ClosC w' g W.heap.size w'.heap.size x t ch cb ∧ Below W.heap.size W w' := by
  have hmf : ∀ (fn : Fn) (first cap : Array Value) (w : World), (Instr.makeFunc fn first cap).run Try.prog w = .ok (.func fn first cap) w := fun _ _ _ _ => rfl
  have HH : Hid (∀ V, W.heap.size < V.heap.size → Calls Try.prog 46 #[.pointer (some ⟨g, 0, none⟩), .int .i64 (sl t)] V fun e w' => e = .returned (.pointer (some ⟨g, ho t, none⟩)) ∧ w' = V) := fun V hv => by
    rw [← hfP_sl]
    exact half_i g (sl t) V (by omega)
  obtain ⟨s, hs⟩ : ∃ s, sl t = s := ⟨_, rfl⟩
  rw [hs] at HH ⊢
  clear hs
  have FA := closA W g x t (.cells #[.int .i64 4, .int .i64 s, .int .u8 x] 42) 71 5
  have FB := closB W g x t (.cells #[.int .i64 4, .int .i64 s, .int .u8 x] 42) 71 5
  have FA : Hid _ := FA
  have FB : Hid _ := FB
  go_enter Try.func68, Try.ntmps68
  go_upto_region 1 with fail
  go_region_held3 (fun w' => w'.cell? ⟨W.heap.size, 1, none⟩ = some (.int .i64 s) ∧ w'.cell? ⟨W.heap.size, 2, none⟩ = some (.int .u8 x))
    (first | go_keep | (simp))
    (first | (go_at_call 46; refine (HH.out _ (by simp <;> omega)).mono ?_; rintro e w1 ⟨rfl, rfl⟩) | fail)
  all_goals
    go_wp2
    go_ret
    first | exact ⟨W.heap.size + 1, W.heap.size + 1 + 1, rfl, FA.out⟩ | exact ⟨W.heap.size + 1 + 1, W.heap.size + 1, rfl, FB.out⟩
set_option maxRecDepth 10000 in
set_option maxHeartbeats 4000000 in
theorem act_k (g : Nat) (t : Bool) (k : Int) (x : Nat) (W : World) (hg : g < W.heap.size) (h : k ≠ 1 ∧ k ≠ 2 ∧ k ≠ 3 ∧ k ≠ 4) :
    Calls Try.prog 68 #[.pointer (some ⟨g, 0, none⟩), .agg #[.int .i64 k, .int .i64 (sl t), .int .u8 x]] W fun e w' => e = .returned .nilFunc ∧ Below W.heap.size W w' := by
  have HH : Hid (∀ V, W.heap.size < V.heap.size → Calls Try.prog 46 #[.pointer (some ⟨g, 0, none⟩), .int .i64 (sl t)] V fun e w' => e = .returned (.pointer (some ⟨g, ho t, none⟩)) ∧ w' = V) := fun V hv => by
    rw [← hfP_sl]
    exact half_i g (sl t) V (by omega)
  obtain ⟨s, hs⟩ : ∃ s, sl t = s := ⟨_, rfl⟩
  rw [hs] at HH ⊢
  clear hs
  have e1 : (k == 1) = false := by simp [h.1]
  have e2 : (k == 2) = false := by simp [h.2.1]
  have e3 : (k == 3) = false := by simp [h.2.2.1]
  have e4 : (k == 4) = false := by simp [h.2.2.2]
  have FA : Hid (∀ o1 o2 o3 : Obj, Below W.heap.size W (((W.alloc o1).alloc o2).alloc o3).drew) := fun o1 o2 o3 => threeB W o1 o2 o3
  clear h
  go_enter Try.func68, Try.ntmps68
  go_upto_region 1 with fail
  go_region_held3 (fun w' => w'.cell? ⟨W.heap.size, 1, none⟩ = some (.int .i64 s) ∧ w'.cell? ⟨W.heap.size, 2, none⟩ = some (.int .u8 x))
    (first | go_keep | (simp))
    (first | (go_at_call 46; refine (HH.out _ (by simp <;> omega)).mono ?_; rintro e w1 ⟨rfl, rfl⟩) | fail)
  all_goals
    go_wp2
    go_ret
    exact ⟨rfl, FA.out _ _ _⟩
set_option maxRecDepth 10000 in
set_option maxHeartbeats 4000000 in
theorem act_s (g : Nat) (s k : Int) (x : Nat) (W : World) (hg : g < W.heap.size) (h : s ≠ 0 ∧ s ≠ 1) :
    Calls Try.prog 68 #[.pointer (some ⟨g, 0, none⟩), .agg #[.int .i64 k, .int .i64 s, .int .u8 x]] W fun e w' => e = .returned .nilFunc ∧ Below W.heap.size W w' := by
  have HH : Hid (∀ V, W.heap.size < V.heap.size → Calls Try.prog 46 #[.pointer (some ⟨g, 0, none⟩), .int .i64 s] V fun e w' => e = .returned (.pointer none) ∧ w' = V) := fun V hv => by
    have e : hfP g s = none := by unfold hfP; rw [if_neg h.1, if_neg h.2]
    rw [← e]
    exact half_i g s V (by omega)
  have FA : Hid (∀ o1 o2 o3 : Obj, Below W.heap.size W (((W.alloc o1).alloc o2).alloc o3).drew) := fun o1 o2 o3 => threeB W o1 o2 o3
  clear h
  go_enter Try.func68, Try.ntmps68
  go_upto_region 1 with fail
  go_region_held3 (fun w' => w'.cell? ⟨W.heap.size, 1, none⟩ = some (.int .i64 s) ∧ w'.cell? ⟨W.heap.size, 2, none⟩ = some (.int .u8 x))
    (first | go_keep | (simp))
    (first | (go_at_call 46; refine (HH.out _ (by simp <;> omega)).mono ?_; rintro e w1 ⟨rfl, rfl⟩) | fail)
  all_goals
    go_wp2
    go_ret
    exact ⟨rfl, FA.out _ _ _⟩
end Go.Proofs.Ytfhdpafaamkipaa
