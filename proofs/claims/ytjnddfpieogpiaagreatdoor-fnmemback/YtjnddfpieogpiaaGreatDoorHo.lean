/- The program's memWithWord. -/
import Derived.Test.YtjnddfpieogpiaaGreatDoorHlM
import Derived.Deep.CutBlock
import Derived.Deep.DeepCutAuto
namespace Go.Proofs.YtjnddfpieogpiaaGreatDoor
open Go.RowKit Go.Shelf
set_option linter.unusedVariables false

/-- What the program's readings of a word's parts say. -/
structure Prds where
  cut : ByteArray → ByteArray × ByteArray × Bool
  num : ByteArray → Int
  rd : ByteArray → Int × Int × Int
  rb : ByteArray → Bool
  has33 : ByteArray → Bool
  has43 : ByteArray → Bool
  trim : ByteArray → ByteArray
  RP : ByteArray → Nat → Bool → Prop
structure PrdsOk (r : Prds) (T : World → Prop) : Prop where
  later : ∀ W W', T W → Below W.heap.size W W' → T W'
  kt : ∀ W, T W → KT W
  cut : ∀ s : ByteArray, s.size ≤ 1048576 → ∀ W, T W → Calls Tryz.prog 82 #[.string s, .string ⟨#[61]⟩] W fun e w' => e = .returned (.tuple #[.string (r.cut s).1, .string (r.cut s).2.1, .bool (r.cut s).2.2]) ∧ Below W.heap.size W w'
  cutz : ∀ s : ByteArray, (r.cut s).1.size ≤ s.size ∧ (r.cut s).2.1.size ≤ s.size
  num : ∀ s : ByteArray, s.size ≤ 1048576 → ∀ W, T W → Calls Tryz.prog 83 #[.string s] W fun e w' => e = .returned (.int .i64 (r.num s)) ∧ Below W.heap.size W w'
  dev : ∀ s : ByteArray, s.size ≤ 1048576 → ∀ W, T W → Calls Tryz.prog 84 #[.string s] W fun e w' => e = .returned (.tuple #[.agg #[.int .i64 (r.rd s).1, .int .i64 (r.rd s).2.1, .int .i64 (r.rd s).2.2], .bool (r.rb s)]) ∧ Below W.heap.size W w'
  bd : ∀ s : ByteArray, ((r.rd s).1 = 7 → 0 ≤ (r.rd s).2.1 ∧ (r.rd s).2.1 < 16) ∧ ((r.rd s).1 = 8 → 0 ≤ (r.rd s).2.1 ∧ (r.rd s).2.1 < 16) ∧ ((r.rd s).1 = 9 → 0 ≤ (r.rd s).2.1 ∧ (r.rd s).2.1 < 32) ∧ ((r.rd s).1 = 10 → 0 ≤ (r.rd s).2.1 ∧ (r.rd s).2.1 < 16)
  h33 : ∀ s : ByteArray, s.size ≤ 1048576 → ∀ W, T W → Calls Tryz.prog 85 #[.string s, .string ⟨#[33]⟩] W fun e w' => e = .returned (.bool (r.has33 s)) ∧ Below W.heap.size W w'
  h43 : ∀ s : ByteArray, s.size ≤ 1048576 → ∀ W, T W → Calls Tryz.prog 85 #[.string s, .string ⟨#[43]⟩] W fun e w' => e = .returned (.bool (r.has43 s)) ∧ Below W.heap.size W w'
  trim : ∀ s : ByteArray, s.size ≤ 1048576 → ∀ W, T W → Calls Tryz.prog 86 #[.string s, .string ⟨#[33, 43]⟩] W fun e w' => e = .returned (.string (r.trim s)) ∧ Below W.heap.size W w'
  trimz : ∀ s : ByteArray, (r.trim s).size ≤ s.size
  real : ∀ s : ByteArray, s.size ≤ 1048576 → ∀ W, T W → Calls Tryz.prog 87 #[.string s] W fun e w' => ∃ x b, e = .returned (.tuple #[.float .f64 x, .bool b]) ∧ r.RP s x b ∧ Below W.heap.size W w'
  has : ∀ s x b, r.RP s x b → FloatKind.has .f64 x

/-- What the name of a word alone puts. -/
def pre1 (r : Prds) (c : Array Value) (nm v : ByteArray) : Array Value :=
  if nm.data.toList = [116, 105, 109, 101] then c.setIfInBounds 133 (.int .u32 (IntKind.u32.wrap (r.num v)))
  else if nm.data.toList = [114, 97, 110] then c.setIfInBounds 134 (.bool true)
  else if nm.data.toList = [102, 97, 117, 108, 116] then c.setIfInBounds 135 (.bool true) else c
theorem memOk_pre1 {c : Array Value} (r : Prds) (hc : MemOk c) (nm v : ByteArray) : MemOk (pre1 r c nm v) := by
  unfold pre1
  split
  · refine hh_set hc _ ?_
    have e : IntKind.u32.wrap (r.num v) = r.num v % 4294967296 := by simp [IntKind.wrap, IntKind.bits, IntKind.signed]
    rw [show kd 133 = 32 from rfl, e]
    simp [CellIs, Value.oneCell']; omega
  split
  · exact hh_set hc _ (hh_bool _ rfl)
  split
  · exact hh_set hc _ (hh_bool _ rfl)
  · exact hc


/-- What a word puts behind its name. -/
def PTo (r : Prds) (P : Array Value) (nm v : ByteArray) (C : Array Value) : Prop :=
  if (r.rd nm).1 = 7 then C = (P.setIfInBounds (5 + (r.rd nm).2.1.toNat * 2) (.bool (r.has33 v))).setIfInBounds (5 + (r.rd nm).2.1.toNat * 2 + 1) (.int .u16 (IntKind.u16.wrap (r.num (r.trim v))))
  else if (r.rd nm).1 = 8 then C = ((P.setIfInBounds (37 + (r.rd nm).2.1.toNat * 3) (.bool (r.has33 v))).setIfInBounds (37 + (r.rd nm).2.1.toNat * 3 + 1) (.bool (r.has43 v))).setIfInBounds (37 + (r.rd nm).2.1.toNat * 3 + 2) (.int .u16 (IntKind.u16.wrap (r.num (r.trim v))))
  else if (r.rd nm).1 = 9 then C = P.setIfInBounds (85 + (r.rd nm).2.1.toNat) (.int .i16 (IntKind.i16.wrap (r.num v)))
  else if (r.rd nm).1 = 10 then ∃ x b, r.RP v x b ∧ C = P.setIfInBounds (117 + (r.rd nm).2.1.toNat) (.float .f64 x)
  else C = putx P (r.rd nm).1 (r.rd nm).2.1


set_option maxRecDepth 10000 in
set_option maxHeartbeats 4000000 in
theorem withword_7 {r : Prds} {T : World → Prop} (hr : PrdsOk r T) (c : Array Value) (hc : MemOk c) (s : ByteArray) (hs : s.size ≤ 1048576) (w : World) (hT : T w) (nm v : ByteArray) (fb : Bool) (hcut : r.cut s = (nm, v, fb)) (k : Int) (n : Nat) (q : Int) (hrd : r.rd nm = (k, (n : Int), q)) (hk : k = 7) (hn : n < 16) (QQ : Array Value → Prop) (HQQ : Hid (∀ D, PTo r (pre1 r c nm v) nm v D → QQ D)) :
    Calls Tryz.prog 29 #[.agg c, .string s] w fun e w' => ∃ D, e = .returned (.agg D) ∧ QQ D ∧ Below w.heap.size w w' := by
  have HKN : Hid (k = 7 ∧ n < 16) := ⟨hk, hn⟩
  clear hk hn
  have HR : Hid (PrdsOk r T) := hr
  have HTw : Hid (T w) := hT
  have HC : Hid (MemOk c) := hc
  have hz := zero_mem.1
  obtain ⟨Z, HZ⟩ : ∃ Z, Hid (Z = memZero) := ⟨_, rfl⟩
  rw [← HZ.out] at hz
  have HZs : Hid (Z.size = 136) := (by rw [HZ.out, memZero_size] : Z.size = 136)
  have HCut : Hid (∀ W, T W → Calls Tryz.prog 82 #[.string s, .string ⟨#[61]⟩] W fun e w' => e = .returned (.tuple #[.string (r.cut s).1, .string (r.cut s).2.1, .bool (r.cut s).2.2]) ∧ Below W.heap.size W w') := hr.cut s hs
  have HSZ : Hid ((r.cut s).1.size ≤ 1048576 ∧ (r.cut s).2.1.size ≤ 1048576) := (by have := hr.cutz s; omega : (r.cut s).1.size ≤ 1048576 ∧ (r.cut s).2.1.size ≤ 1048576)
  rw [hcut] at HCut HSZ
  obtain ⟨W0, HW0⟩ : ∃ W0, Hid (W0 = (w.alloc (.cells c 37)).alloc (.cells Z 37)) := ⟨_, rfl⟩
  have HH1 : Hid (W0.heap[w.heap.size]? = some (.cells c 37 (0, 0))) := (by rw [HW0.out]; exact (rows2 w _ _).1 : W0.heap[w.heap.size]? = some (.cells c 37 (0, 0)))
  have HH2 : Hid (W0.heap[w.heap.size + 1]? = some (.cells Z 37 (0, 0))) := (by rw [HW0.out]; exact (rows2 w _ _).2 : W0.heap[w.heap.size + 1]? = some (.cells Z 37 (0, 0)))
  have HH3 : Hid (W0.heap.size = w.heap.size + 2) := (by rw [HW0.out]; simp : W0.heap.size = w.heap.size + 2)
  have HbW : Hid (Below w.heap.size w W0) := (by rw [HW0.out]; exact ((Below.refl _ _).alloc (Nat.le_refl _) _).alloc (by simp) _ : Below w.heap.size w W0)
  have HDV : Hid (∀ W, T W → Calls Tryz.prog 84 #[.string nm] W fun e w' => e = .returned (.tuple #[.agg #[.int .i64 k, .int .i64 (n : Int), .int .i64 q], .bool (r.rb nm)]) ∧ Below W.heap.size W w') := by have := hr.dev nm HSZ.out.1; rw [hrd] at this; exact this
  have HRD : Hid (r.rd nm = (k, (n : Int), q)) := hrd
  clear hr hT hc hcut hrd
  go_enter Tryz.func29, Tryz.ntmps29
  go_wp2_with fail
  rw [← HW0.out]
  refine (HCut.out W0 (HR.out.later _ _ HTw.out HbW.out)).mono ?_
  rintro e w1 ⟨rfl, g1⟩
  clear HCut HW0 hz
  have HA1 : Hid (w1.heap[w.heap.size]? = some (.cells c 37 (0, 0))) := (g1.block _ (by rw [HH3.out]; omega)).trans HH1.out
  have HA2 : Hid (w1.heap[w.heap.size + 1]? = some (.cells Z 37 (0, 0))) := (g1.block _ (by rw [HH3.out]; omega)).trans HH2.out
  have HAB : Hid (Below w.heap.size w w1) := HbW.out.trans (g1.mono (by rw [HH3.out]; omega))
  have HAS : Hid (w.heap.size + 2 ≤ w1.heap.size) := (by have := g1.size; have := HH3.out; omega : w.heap.size + 2 ≤ w1.heap.size)
  have HTA : Hid (T w1) := HR.out.later _ _ HTw.out HAB.out
  have HP1 : Hid (MemOk (pre1 r c nm v)) := memOk_pre1 r HC.out nm v
  clear g1 HH1 HH2 HH3 HbW
  go_upto_block 0 with fail
  go_cut [6] from 19 to 31 (fun u wc => u = .string v ∧ Hid (wc.heap[w.heap.size]? = some (.cells (pre1 r c nm v) 37 (0, 0))) ∧ Hid (wc.heap[w.heap.size + 1]? = some (.cells Z 37 (0, 0))) ∧ Hid (Below w.heap.size w wc) ∧ Hid (w.heap.size + 2 ≤ wc.heap.size))
  case first =>
    by_cases e1 : nm.data.toList = [116, 105, 109, 101]
    · have f1 : (nm.toList == [116, 105, 109, 101]) = true := by rw [toList_eq]; simp [e1]
      have hp : pre1 r c nm v = c.setIfInBounds 133 (.int .u32 (IntKind.u32.wrap (r.num v))) := by unfold pre1; rw [if_pos e1]
      clear e1
      go_wp2_with fail
      refine (HR.out.num v HSZ.out.2 w1 HTA.out).mono ?_
      rintro e w2 ⟨rfl, g2⟩
      have k1 := (g2.block _ (by have := HAS.out; omega)).trans HA1.out
      have k2 := (g2.block _ (by have := HAS.out; omega)).trans HA2.out
      have kB := HAB.out.trans (g2.mono HAB.out.size)
      have r1 : w2.cell? ⟨w.heap.size, 133, none⟩ = some (c[133]'(by rw [HC.out.size]; omega)) := by rw [cell_of_row _ _ _ _ _ _ k1]; exact Array.getElem?_eq_getElem (by rw [HC.out.size]; omega)
      have q1 : w2.frozen? ⟨w.heap.size, 133, none⟩ = false := by simp [World.frozen?, k1]
      have HY1 : Hid ((w2.setCell ⟨w.heap.size, 133, none⟩ (.int .u32 (IntKind.u32.wrap (r.num v)))).heap[w.heap.size]? = some (.cells (pre1 r c nm v) 37 (0, 0))) := (by rw [hp]; exact row_put k1 _ _ : (w2.setCell ⟨w.heap.size, 133, none⟩ (.int .u32 (IntKind.u32.wrap (r.num v)))).heap[w.heap.size]? = some (.cells (pre1 r c nm v) 37 (0, 0)))
      have HY2 : Hid ((w2.setCell ⟨w.heap.size, 133, none⟩ (.int .u32 (IntKind.u32.wrap (r.num v)))).heap[w.heap.size + 1]? = some (.cells Z 37 (0, 0))) := row_other k2 _ _ (by omega) _
      have HYB : Hid (Below w.heap.size w (w2.setCell ⟨w.heap.size, 133, none⟩ (.int .u32 (IntKind.u32.wrap (r.num v))))) := kB.setCell (p := ⟨w.heap.size, 133, none⟩) (by simp) _
      have HYS : Hid (w.heap.size + 2 ≤ (w2.setCell ⟨w.heap.size, 133, none⟩ (.int .u32 (IntKind.u32.wrap (r.num v)))).heap.size) := (by have := (Array.getElem?_eq_some_iff.1 HY2.out).1; omega : w.heap.size + 2 ≤ (w2.setCell ⟨w.heap.size, 133, none⟩ (.int .u32 (IntKind.u32.wrap (r.num v)))).heap.size)
      clear g2 k1 k2 kB hp HP1
      go_wp2_with fail
      go_meet
      exact ⟨rfl, HY1, HY2, HYB, HYS⟩
    have f1 : (nm.toList == [116, 105, 109, 101]) = false := by rw [toList_eq]; simp [e1]
    by_cases e2 : nm.data.toList = [114, 97, 110]
    · have f2 : (nm.toList == [114, 97, 110]) = true := by rw [toList_eq]; simp [e2]
      have hp : pre1 r c nm v = c.setIfInBounds 134 (.bool true) := by unfold pre1; rw [if_neg e1, if_pos e2]
      have r1 : w1.cell? ⟨w.heap.size, 134, none⟩ = some (c[134]'(by rw [HC.out.size]; omega)) := by rw [cell_of_row _ _ _ _ _ _ HA1.out]; exact Array.getElem?_eq_getElem (by rw [HC.out.size]; omega)
      have q1 : w1.frozen? ⟨w.heap.size, 134, none⟩ = false := by have := HA1.out; simp [World.frozen?, this]
      have HY1 : Hid ((w1.setCell ⟨w.heap.size, 134, none⟩ (.bool true)).heap[w.heap.size]? = some (.cells (pre1 r c nm v) 37 (0, 0))) := (by rw [hp]; exact row_put HA1.out _ _ : (w1.setCell ⟨w.heap.size, 134, none⟩ (.bool true)).heap[w.heap.size]? = some (.cells (pre1 r c nm v) 37 (0, 0)))
      have HY2 : Hid ((w1.setCell ⟨w.heap.size, 134, none⟩ (.bool true)).heap[w.heap.size + 1]? = some (.cells Z 37 (0, 0))) := row_other HA2.out _ _ (by omega) _
      have HYB : Hid (Below w.heap.size w (w1.setCell ⟨w.heap.size, 134, none⟩ (.bool true))) := HAB.out.setCell (p := ⟨w.heap.size, 134, none⟩) (by simp) _
      have HYS : Hid (w.heap.size + 2 ≤ (w1.setCell ⟨w.heap.size, 134, none⟩ (.bool true)).heap.size) := (by have := (Array.getElem?_eq_some_iff.1 HY2.out).1; omega : w.heap.size + 2 ≤ (w1.setCell ⟨w.heap.size, 134, none⟩ (.bool true)).heap.size)
      clear e1 e2 hp HP1
      go_wp2_with fail
      go_meet
      exact ⟨rfl, HY1, HY2, HYB, HYS⟩
    have f2 : (nm.toList == [114, 97, 110]) = false := by rw [toList_eq]; simp [e2]
    by_cases e3 : nm.data.toList = [102, 97, 117, 108, 116]
    · have f3 : (nm.toList == [102, 97, 117, 108, 116]) = true := by rw [toList_eq]; simp [e3]
      have hp : pre1 r c nm v = c.setIfInBounds 135 (.bool true) := by unfold pre1; rw [if_neg e1, if_neg e2, if_pos e3]
      have r1 : w1.cell? ⟨w.heap.size, 135, none⟩ = some (c[135]'(by rw [HC.out.size]; omega)) := by rw [cell_of_row _ _ _ _ _ _ HA1.out]; exact Array.getElem?_eq_getElem (by rw [HC.out.size]; omega)
      have q1 : w1.frozen? ⟨w.heap.size, 135, none⟩ = false := by have := HA1.out; simp [World.frozen?, this]
      have HY1 : Hid ((w1.setCell ⟨w.heap.size, 135, none⟩ (.bool true)).heap[w.heap.size]? = some (.cells (pre1 r c nm v) 37 (0, 0))) := (by rw [hp]; exact row_put HA1.out _ _ : (w1.setCell ⟨w.heap.size, 135, none⟩ (.bool true)).heap[w.heap.size]? = some (.cells (pre1 r c nm v) 37 (0, 0)))
      have HY2 : Hid ((w1.setCell ⟨w.heap.size, 135, none⟩ (.bool true)).heap[w.heap.size + 1]? = some (.cells Z 37 (0, 0))) := row_other HA2.out _ _ (by omega) _
      have HYB : Hid (Below w.heap.size w (w1.setCell ⟨w.heap.size, 135, none⟩ (.bool true))) := HAB.out.setCell (p := ⟨w.heap.size, 135, none⟩) (by simp) _
      have HYS : Hid (w.heap.size + 2 ≤ (w1.setCell ⟨w.heap.size, 135, none⟩ (.bool true)).heap.size) := (by have := (Array.getElem?_eq_some_iff.1 HY2.out).1; omega : w.heap.size + 2 ≤ (w1.setCell ⟨w.heap.size, 135, none⟩ (.bool true)).heap.size)
      clear e1 e2 e3 hp HP1
      go_wp2_with fail
      go_meet
      exact ⟨rfl, HY1, HY2, HYB, HYS⟩
    have f3 : (nm.toList == [102, 97, 117, 108, 116]) = false := by rw [toList_eq]; simp [e3]
    have hp : pre1 r c nm v = c := by unfold pre1; rw [if_neg e1, if_neg e2, if_neg e3]
    have HY1 : Hid (w1.heap[w.heap.size]? = some (.cells (pre1 r c nm v) 37 (0, 0))) := (by rw [hp]; exact HA1.out : w1.heap[w.heap.size]? = some (.cells (pre1 r c nm v) 37 (0, 0)))
    clear e1 e2 e3 hp HP1
    go_wp2_with fail
    go_meet
    exact ⟨rfl, HY1, HA2, HAB, HAS⟩
  case rest =>
    obtain ⟨rfl, HY1, HY2, HYB, HYS⟩ := hcut
    obtain ⟨P, HPP⟩ : ∃ P, Hid (P = pre1 r c nm v) := ⟨_, rfl⟩
    have HPM : Hid (MemOk P) := (by rw [HPP.out]; exact HP1.out : MemOk P)
    have HX1 : Hid (wc.heap[w.heap.size]? = some (.cells P 37 (0, 0))) := (by rw [HPP.out]; exact HY1.out : wc.heap[w.heap.size]? = some (.cells P 37 (0, 0)))
    have HTc : Hid (T wc) := HR.out.later _ _ HTw.out HYB.out
    have HPOST : Hid (∀ D, PTo r P nm v D → QQ D) := fun D h => by have := HQQ.out D; rw [HPP.out] at h; exact this h
    clear HY1 HP1 HA1 HA2 HAB HAS HTA HC
    go_wp2_with fail
    refine (HDV.out wc HTc.out).mono ?_
    rintro e w2 ⟨rfl, g2⟩
    have HB1 : Hid (w2.heap[w.heap.size]? = some (.cells P 37 (0, 0))) := (g2.block _ (by have := HYS.out; omega)).trans HX1.out
    have HB2 : Hid (w2.heap[w.heap.size + 1]? = some (.cells Z 37 (0, 0))) := (g2.block _ (by have := HYS.out; omega)).trans HY2.out
    have HBB : Hid (Below w.heap.size w w2) := HYB.out.trans (g2.mono HYB.out.size)
    have HBS : Hid (w.heap.size + 2 ≤ w2.heap.size) := (by have := g2.size; have := HYS.out; omega : w.heap.size + 2 ≤ w2.heap.size)
    have hzd := zero_da.1
    clear g2 HX1 HY2 HYB HYS HTc
    go_wp2_with fail
    have HC1 : Hid ((w2.alloc (.cells #[.int .i64 k, .int .i64 (n : Int), .int .i64 q] 54)).heap[w.heap.size]? = some (.cells P 37 (0, 0))) := (((Below.refl w2.heap.size w2).alloc (Nat.le_refl _) _).block _ (by have := HBS.out; omega)).trans HB1.out
    have HC2 : Hid ((w2.alloc (.cells #[.int .i64 k, .int .i64 (n : Int), .int .i64 q] 54)).heap[w.heap.size + 1]? = some (.cells Z 37 (0, 0))) := (((Below.refl w2.heap.size w2).alloc (Nat.le_refl _) _).block _ (by have := HBS.out; omega)).trans HB2.out
    have HCD : Hid ((w2.alloc (.cells #[.int .i64 k, .int .i64 (n : Int), .int .i64 q] 54)).heap[w2.heap.size]? = some (.cells #[.int .i64 k, .int .i64 (n : Int), .int .i64 q] 54 (0, 0))) := heap_alloc_last _ _
    have HCB : Hid (Below w.heap.size w (w2.alloc (.cells #[.int .i64 k, .int .i64 (n : Int), .int .i64 q] 54))) := HBB.out.alloc (by have := HBS.out; omega) _
    have HGD : Hid (w.heap.size + 2 ≤ w2.heap.size) := HBS.out
    generalize (w2.alloc (.cells #[.int .i64 k, .int .i64 (n : Int), .int .i64 q] 54)) = X at HC1 HC2 HCD HCB ⊢
    generalize w2.heap.size = gd at HCD HGD ⊢
    clear HB1 HB2 HBB HBS hzd
    have HST : Hid (∀ V V' : World, (V.heap[w.heap.size]? = some (.cells P 37 (0, 0)) ∧ V.heap[w.heap.size + 1]? = some (.cells Z 37 (0, 0)) ∧ V.heap[gd]? = some (.cells #[.int .i64 k, .int .i64 (n : Int), .int .i64 q] 54 (0, 0)) ∧ Below w.heap.size w V) → Below V.heap.size V V' → (V'.heap[w.heap.size]? = some (.cells P 37 (0, 0)) ∧ V'.heap[w.heap.size + 1]? = some (.cells Z 37 (0, 0)) ∧ V'.heap[gd]? = some (.cells #[.int .i64 k, .int .i64 (n : Int), .int .i64 q] 54 (0, 0)) ∧ Below w.heap.size w V')) := fun V V' h g => by
      obtain ⟨a1, a2, a3, a4⟩ := h
      have l1 := (Array.getElem?_eq_some_iff.1 a3).1
      have l2 := HGD.out
      exact ⟨(g.block _ (by omega)).trans a1, (g.block _ (by omega)).trans a2, (g.block _ l1).trans a3, a4.trans (g.mono a4.size)⟩
    have HX : Hid (X.heap[w.heap.size]? = some (.cells P 37 (0, 0)) ∧ X.heap[w.heap.size + 1]? = some (.cells Z 37 (0, 0)) ∧ X.heap[gd]? = some (.cells #[.int .i64 k, .int .i64 (n : Int), .int .i64 q] 54 (0, 0)) ∧ Below w.heap.size w X) := ⟨HC1.out, HC2.out, HCD.out, HCB.out⟩
    clear HC1 HC2 HCD HCB
    refine (HR.out.h33 v HSZ.out.2 X (HR.out.later _ _ HTw.out HX.out.2.2.2)).mono ?_
    rintro e w3 ⟨rfl, g3⟩
    have HX3 : Hid (w3.heap[w.heap.size]? = some (.cells P 37 (0, 0)) ∧ w3.heap[w.heap.size + 1]? = some (.cells Z 37 (0, 0)) ∧ w3.heap[gd]? = some (.cells #[.int .i64 k, .int .i64 (n : Int), .int .i64 q] 54 (0, 0)) ∧ Below w.heap.size w w3) := HST.out _ _ HX.out g3
    clear g3 HX
    go_wp2_with fail
    refine (HR.out.h43 v HSZ.out.2 w3 (HR.out.later _ _ HTw.out HX3.out.2.2.2)).mono ?_
    rintro e w4 ⟨rfl, g4⟩
    have HX4 : Hid (w4.heap[w.heap.size]? = some (.cells P 37 (0, 0)) ∧ w4.heap[w.heap.size + 1]? = some (.cells Z 37 (0, 0)) ∧ w4.heap[gd]? = some (.cells #[.int .i64 k, .int .i64 (n : Int), .int .i64 q] 54 (0, 0)) ∧ Below w.heap.size w w4) := HST.out _ _ HX3.out g4
    clear g4 HX3
    go_wp2_with fail
    refine (HR.out.trim v HSZ.out.2 w4 (HR.out.later _ _ HTw.out HX4.out.2.2.2)).mono ?_
    rintro e w5 ⟨rfl, g5⟩
    have HX5 : Hid (w5.heap[w.heap.size]? = some (.cells P 37 (0, 0)) ∧ w5.heap[w.heap.size + 1]? = some (.cells Z 37 (0, 0)) ∧ w5.heap[gd]? = some (.cells #[.int .i64 k, .int .i64 (n : Int), .int .i64 q] 54 (0, 0)) ∧ Below w.heap.size w w5) := HST.out _ _ HX4.out g5
    clear g5 HX4
    go_wp2_with fail
    refine (HR.out.num (r.trim v) (by have := HR.out.trimz v; have := HSZ.out.2; omega) w5 (HR.out.later _ _ HTw.out HX5.out.2.2.2)).mono ?_
    rintro e w6 ⟨rfl, g6⟩
    have HX6 : Hid (w6.heap[w.heap.size]? = some (.cells P 37 (0, 0)) ∧ w6.heap[w.heap.size + 1]? = some (.cells Z 37 (0, 0)) ∧ w6.heap[gd]? = some (.cells #[.int .i64 k, .int .i64 (n : Int), .int .i64 q] 54 (0, 0)) ∧ Below w.heap.size w w6) := HST.out _ _ HX5.out g6
    clear g6 HX5
    have rK : w6.cell? ⟨gd, 0, none⟩ = some (.int .i64 k) := (cell_of_row _ _ _ _ _ _ HX6.out.2.2.1).trans rfl
    have rN : w6.cell? ⟨gd, 1, none⟩ = some (.int .i64 (n : Int)) := (cell_of_row _ _ _ _ _ _ HX6.out.2.2.1).trans rfl
    have rQ : w6.cell? ⟨gd, 2, none⟩ = some (.int .i64 q) := (cell_of_row _ _ _ _ _ _ HX6.out.2.2.1).trans rfl
    have hk := HKN.out.1
    have hn := HKN.out.2
    obtain ⟨x0, hx0⟩ : ∃ x, w6.cell? ⟨w.heap.size, 5 + n * 2, none⟩ = some x := by rw [cell_of_row _ _ _ _ _ _ HX6.out.1]; exact ⟨_, Array.getElem?_eq_getElem (by have := HPM.out.size; first | omega | (simp only [Array.size_setIfInBounds]; omega))⟩
    have z0 : w6.frozen? ⟨w.heap.size, 5 + n * 2, none⟩ = false := by have hh := HX6.out.1; simp [World.frozen?, hh]
    have row0 : (w6.setCell ⟨w.heap.size, 5 + n * 2, none⟩ (.bool (r.has33 v))).heap[w.heap.size]? = some (.cells (P.setIfInBounds (5 + n * 2) (.bool (r.has33 v))) 37 (0, 0)) := row_put HX6.out.1 _ _
    obtain ⟨x1, hx1⟩ : ∃ x, (w6.setCell ⟨w.heap.size, 5 + n * 2, none⟩ (.bool (r.has33 v))).cell? ⟨w.heap.size, 5 + n * 2 + 1, none⟩ = some x := by rw [cell_of_row _ _ _ _ _ _ row0]; exact ⟨_, Array.getElem?_eq_getElem (by have := HPM.out.size; first | omega | (simp only [Array.size_setIfInBounds]; omega))⟩
    have z1 : (w6.setCell ⟨w.heap.size, 5 + n * 2, none⟩ (.bool (r.has33 v))).frozen? ⟨w.heap.size, 5 + n * 2 + 1, none⟩ = false := by have hh := row0; simp [World.frozen?, hh]
    have row1 : ((w6.setCell ⟨w.heap.size, 5 + n * 2, none⟩ (.bool (r.has33 v))).setCell ⟨w.heap.size, 5 + n * 2 + 1, none⟩ (.int .u16 (IntKind.u16.wrap (r.num (r.trim v))))).heap[w.heap.size]? = some (.cells ((P.setIfInBounds (5 + n * 2) (.bool (r.has33 v))).setIfInBounds (5 + n * 2 + 1) (.int .u16 (IntKind.u16.wrap (r.num (r.trim v))))) 37 (0, 0)) := row_put row0 _ _
    obtain ⟨C, HCC⟩ : ∃ C, Hid (C = ((P.setIfInBounds (5 + n * 2) (.bool (r.has33 v))).setIfInBounds (5 + n * 2 + 1) (.int .u16 (IntKind.u16.wrap (r.num (r.trim v)))))) := ⟨_, rfl⟩
    have HCM : Hid (MemOk C) := (by rw [HCC.out]; exact hh_set (hh_set HPM.out _ (hh_bool _ (by rw [kd_h]; repeat (first | rw [if_neg (by omega)] | rw [if_pos (by omega)])))) _ (hh_u16 _ (by rw [kd_h]; repeat (first | rw [if_neg (by omega)] | rw [if_pos (by omega)]))) : MemOk C)
    have HR1 : Hid (((w6.setCell ⟨w.heap.size, 5 + n * 2, none⟩ (.bool (r.has33 v))).setCell ⟨w.heap.size, 5 + n * 2 + 1, none⟩ (.int .u16 (IntKind.u16.wrap (r.num (r.trim v))))).heap[w.heap.size]? = some (.cells C 37 (0, 0))) := (by rw [HCC.out]; exact row1 : ((w6.setCell ⟨w.heap.size, 5 + n * 2, none⟩ (.bool (r.has33 v))).setCell ⟨w.heap.size, 5 + n * 2 + 1, none⟩ (.int .u16 (IntKind.u16.wrap (r.num (r.trim v))))).heap[w.heap.size]? = some (.cells C 37 (0, 0)))
    have HR3 : Hid (((w6.setCell ⟨w.heap.size, 5 + n * 2, none⟩ (.bool (r.has33 v))).setCell ⟨w.heap.size, 5 + n * 2 + 1, none⟩ (.int .u16 (IntKind.u16.wrap (r.num (r.trim v))))).heap[w.heap.size + 1]? = some (.cells Z 37 (0, 0))) := (row_other (row_other HX6.out.2.1 _ _ (by omega) _) _ _ (by omega) _)
    have HB0 : Hid (Below w.heap.size w ((w6.setCell ⟨w.heap.size, 5 + n * 2, none⟩ (.bool (r.has33 v))).setCell ⟨w.heap.size, 5 + n * 2 + 1, none⟩ (.int .u16 (IntKind.u16.wrap (r.num (r.trim v)))))) := ((HX6.out.2.2.2.setCell (p := ⟨w.heap.size, 5 + n * 2, none⟩) (by simp) _).setCell (p := ⟨w.heap.size, 5 + n * 2 + 1, none⟩) (by simp) _)
    have HTO : Hid (PTo r P nm v C) := (by unfold PTo; rw [HRD.out]; simp only [Int.toNat_natCast]; rw [if_pos hk]; exact HCC.out : PTo r P nm v C)
    have e7 : (k == 7) = true := by rw [hk]; rfl
    have i0 : (0 : Int) ≤ (n : Int) := by omega
    have i9 : (n : Int) < 16 := by omega
    clear hk hn row0 row1 HRD HX6 HST HR HTw HDV HQQ
    have HI : Hid ((Tryz.prog.info? 37).map (·.size) = some C.size) := (by rw [HCM.out.size]; exact zero_mem.2 : (Tryz.prog.info? 37).map (·.size) = some C.size)
    have HLD : Hid ((loadVar 37 ⟨w.heap.size, 0, none⟩).run Tryz.prog ((w6.setCell ⟨w.heap.size, 5 + n * 2, none⟩ (.bool (r.has33 v))).setCell ⟨w.heap.size, 5 + n * 2 + 1, none⟩ (.int .u16 (IntKind.u16.wrap (r.num (r.trim v))))) = .ok (.agg C) ((w6.setCell ⟨w.heap.size, 5 + n * 2, none⟩ (.bool (r.has33 v))).setCell ⟨w.heap.size, 5 + n * 2 + 1, none⟩ (.int .u16 (IntKind.u16.wrap (r.num (r.trim v)))))) := load_all HR1.out _ _ Tryz.underlying37 rfl HI.out
    have HSD : Hid ((storeVar 37 ⟨w.heap.size + 1, 0, none⟩ (.agg C)).run Tryz.prog ((w6.setCell ⟨w.heap.size, 5 + n * 2, none⟩ (.bool (r.has33 v))).setCell ⟨w.heap.size, 5 + n * 2 + 1, none⟩ (.int .u16 (IntKind.u16.wrap (r.num (r.trim v))))) = .ok () (((w6.setCell ⟨w.heap.size, 5 + n * 2, none⟩ (.bool (r.has33 v))).setCell ⟨w.heap.size, 5 + n * 2 + 1, none⟩ (.int .u16 (IntKind.u16.wrap (r.num (r.trim v))))).setRow (w.heap.size + 1) C)) := store_all HR3.out _ _ (HZs.out.trans HCM.out.size.symm) HI.out HCM.out.one
    have HB : Hid (Below w.heap.size w (((w6.setCell ⟨w.heap.size, 5 + n * 2, none⟩ (.bool (r.has33 v))).setCell ⟨w.heap.size, 5 + n * 2 + 1, none⟩ (.int .u16 (IntKind.u16.wrap (r.num (r.trim v))))).setRow (w.heap.size + 1) C)) := below_setRow HB0.out (by omega) _
    go_wp2_with (first | (refine wpL_load rfl 37 _ rfl _ _ rfl _ HLD.out ?_) | (refine wpL_store rfl 37 _ _ rfl _ _ rfl _ rfl _ HSD.out ?_) | exact ret_row rfl rfl (row_set HR3.out _) Tryz.underlying37 rfl HI.out rfl ⟨C, rfl, HPOST.out C HTO.out, HB.out⟩ | fail)

set_option maxRecDepth 10000 in
set_option maxHeartbeats 4000000 in
theorem withword_8 {r : Prds} {T : World → Prop} (hr : PrdsOk r T) (c : Array Value) (hc : MemOk c) (s : ByteArray) (hs : s.size ≤ 1048576) (w : World) (hT : T w) (nm v : ByteArray) (fb : Bool) (hcut : r.cut s = (nm, v, fb)) (k : Int) (n : Nat) (q : Int) (hrd : r.rd nm = (k, (n : Int), q)) (hk : k = 8) (hn : n < 16) (QQ : Array Value → Prop) (HQQ : Hid (∀ D, PTo r (pre1 r c nm v) nm v D → QQ D)) :
    Calls Tryz.prog 29 #[.agg c, .string s] w fun e w' => ∃ D, e = .returned (.agg D) ∧ QQ D ∧ Below w.heap.size w w' := by
  have HKN : Hid (k = 8 ∧ n < 16) := ⟨hk, hn⟩
  clear hk hn
  have HR : Hid (PrdsOk r T) := hr
  have HTw : Hid (T w) := hT
  have HC : Hid (MemOk c) := hc
  have hz := zero_mem.1
  obtain ⟨Z, HZ⟩ : ∃ Z, Hid (Z = memZero) := ⟨_, rfl⟩
  rw [← HZ.out] at hz
  have HZs : Hid (Z.size = 136) := (by rw [HZ.out, memZero_size] : Z.size = 136)
  have HCut : Hid (∀ W, T W → Calls Tryz.prog 82 #[.string s, .string ⟨#[61]⟩] W fun e w' => e = .returned (.tuple #[.string (r.cut s).1, .string (r.cut s).2.1, .bool (r.cut s).2.2]) ∧ Below W.heap.size W w') := hr.cut s hs
  have HSZ : Hid ((r.cut s).1.size ≤ 1048576 ∧ (r.cut s).2.1.size ≤ 1048576) := (by have := hr.cutz s; omega : (r.cut s).1.size ≤ 1048576 ∧ (r.cut s).2.1.size ≤ 1048576)
  rw [hcut] at HCut HSZ
  obtain ⟨W0, HW0⟩ : ∃ W0, Hid (W0 = (w.alloc (.cells c 37)).alloc (.cells Z 37)) := ⟨_, rfl⟩
  have HH1 : Hid (W0.heap[w.heap.size]? = some (.cells c 37 (0, 0))) := (by rw [HW0.out]; exact (rows2 w _ _).1 : W0.heap[w.heap.size]? = some (.cells c 37 (0, 0)))
  have HH2 : Hid (W0.heap[w.heap.size + 1]? = some (.cells Z 37 (0, 0))) := (by rw [HW0.out]; exact (rows2 w _ _).2 : W0.heap[w.heap.size + 1]? = some (.cells Z 37 (0, 0)))
  have HH3 : Hid (W0.heap.size = w.heap.size + 2) := (by rw [HW0.out]; simp : W0.heap.size = w.heap.size + 2)
  have HbW : Hid (Below w.heap.size w W0) := (by rw [HW0.out]; exact ((Below.refl _ _).alloc (Nat.le_refl _) _).alloc (by simp) _ : Below w.heap.size w W0)
  have HDV : Hid (∀ W, T W → Calls Tryz.prog 84 #[.string nm] W fun e w' => e = .returned (.tuple #[.agg #[.int .i64 k, .int .i64 (n : Int), .int .i64 q], .bool (r.rb nm)]) ∧ Below W.heap.size W w') := by have := hr.dev nm HSZ.out.1; rw [hrd] at this; exact this
  have HRD : Hid (r.rd nm = (k, (n : Int), q)) := hrd
  clear hr hT hc hcut hrd
  go_enter Tryz.func29, Tryz.ntmps29
  go_wp2_with fail
  rw [← HW0.out]
  refine (HCut.out W0 (HR.out.later _ _ HTw.out HbW.out)).mono ?_
  rintro e w1 ⟨rfl, g1⟩
  clear HCut HW0 hz
  have HA1 : Hid (w1.heap[w.heap.size]? = some (.cells c 37 (0, 0))) := (g1.block _ (by rw [HH3.out]; omega)).trans HH1.out
  have HA2 : Hid (w1.heap[w.heap.size + 1]? = some (.cells Z 37 (0, 0))) := (g1.block _ (by rw [HH3.out]; omega)).trans HH2.out
  have HAB : Hid (Below w.heap.size w w1) := HbW.out.trans (g1.mono (by rw [HH3.out]; omega))
  have HAS : Hid (w.heap.size + 2 ≤ w1.heap.size) := (by have := g1.size; have := HH3.out; omega : w.heap.size + 2 ≤ w1.heap.size)
  have HTA : Hid (T w1) := HR.out.later _ _ HTw.out HAB.out
  have HP1 : Hid (MemOk (pre1 r c nm v)) := memOk_pre1 r HC.out nm v
  clear g1 HH1 HH2 HH3 HbW
  go_upto_block 0 with fail
  go_cut [6] from 19 to 31 (fun u wc => u = .string v ∧ Hid (wc.heap[w.heap.size]? = some (.cells (pre1 r c nm v) 37 (0, 0))) ∧ Hid (wc.heap[w.heap.size + 1]? = some (.cells Z 37 (0, 0))) ∧ Hid (Below w.heap.size w wc) ∧ Hid (w.heap.size + 2 ≤ wc.heap.size))
  case first =>
    by_cases e1 : nm.data.toList = [116, 105, 109, 101]
    · have f1 : (nm.toList == [116, 105, 109, 101]) = true := by rw [toList_eq]; simp [e1]
      have hp : pre1 r c nm v = c.setIfInBounds 133 (.int .u32 (IntKind.u32.wrap (r.num v))) := by unfold pre1; rw [if_pos e1]
      clear e1
      go_wp2_with fail
      refine (HR.out.num v HSZ.out.2 w1 HTA.out).mono ?_
      rintro e w2 ⟨rfl, g2⟩
      have k1 := (g2.block _ (by have := HAS.out; omega)).trans HA1.out
      have k2 := (g2.block _ (by have := HAS.out; omega)).trans HA2.out
      have kB := HAB.out.trans (g2.mono HAB.out.size)
      have r1 : w2.cell? ⟨w.heap.size, 133, none⟩ = some (c[133]'(by rw [HC.out.size]; omega)) := by rw [cell_of_row _ _ _ _ _ _ k1]; exact Array.getElem?_eq_getElem (by rw [HC.out.size]; omega)
      have q1 : w2.frozen? ⟨w.heap.size, 133, none⟩ = false := by simp [World.frozen?, k1]
      have HY1 : Hid ((w2.setCell ⟨w.heap.size, 133, none⟩ (.int .u32 (IntKind.u32.wrap (r.num v)))).heap[w.heap.size]? = some (.cells (pre1 r c nm v) 37 (0, 0))) := (by rw [hp]; exact row_put k1 _ _ : (w2.setCell ⟨w.heap.size, 133, none⟩ (.int .u32 (IntKind.u32.wrap (r.num v)))).heap[w.heap.size]? = some (.cells (pre1 r c nm v) 37 (0, 0)))
      have HY2 : Hid ((w2.setCell ⟨w.heap.size, 133, none⟩ (.int .u32 (IntKind.u32.wrap (r.num v)))).heap[w.heap.size + 1]? = some (.cells Z 37 (0, 0))) := row_other k2 _ _ (by omega) _
      have HYB : Hid (Below w.heap.size w (w2.setCell ⟨w.heap.size, 133, none⟩ (.int .u32 (IntKind.u32.wrap (r.num v))))) := kB.setCell (p := ⟨w.heap.size, 133, none⟩) (by simp) _
      have HYS : Hid (w.heap.size + 2 ≤ (w2.setCell ⟨w.heap.size, 133, none⟩ (.int .u32 (IntKind.u32.wrap (r.num v)))).heap.size) := (by have := (Array.getElem?_eq_some_iff.1 HY2.out).1; omega : w.heap.size + 2 ≤ (w2.setCell ⟨w.heap.size, 133, none⟩ (.int .u32 (IntKind.u32.wrap (r.num v)))).heap.size)
      clear g2 k1 k2 kB hp HP1
      go_wp2_with fail
      go_meet
      exact ⟨rfl, HY1, HY2, HYB, HYS⟩
    have f1 : (nm.toList == [116, 105, 109, 101]) = false := by rw [toList_eq]; simp [e1]
    by_cases e2 : nm.data.toList = [114, 97, 110]
    · have f2 : (nm.toList == [114, 97, 110]) = true := by rw [toList_eq]; simp [e2]
      have hp : pre1 r c nm v = c.setIfInBounds 134 (.bool true) := by unfold pre1; rw [if_neg e1, if_pos e2]
      have r1 : w1.cell? ⟨w.heap.size, 134, none⟩ = some (c[134]'(by rw [HC.out.size]; omega)) := by rw [cell_of_row _ _ _ _ _ _ HA1.out]; exact Array.getElem?_eq_getElem (by rw [HC.out.size]; omega)
      have q1 : w1.frozen? ⟨w.heap.size, 134, none⟩ = false := by have := HA1.out; simp [World.frozen?, this]
      have HY1 : Hid ((w1.setCell ⟨w.heap.size, 134, none⟩ (.bool true)).heap[w.heap.size]? = some (.cells (pre1 r c nm v) 37 (0, 0))) := (by rw [hp]; exact row_put HA1.out _ _ : (w1.setCell ⟨w.heap.size, 134, none⟩ (.bool true)).heap[w.heap.size]? = some (.cells (pre1 r c nm v) 37 (0, 0)))
      have HY2 : Hid ((w1.setCell ⟨w.heap.size, 134, none⟩ (.bool true)).heap[w.heap.size + 1]? = some (.cells Z 37 (0, 0))) := row_other HA2.out _ _ (by omega) _
      have HYB : Hid (Below w.heap.size w (w1.setCell ⟨w.heap.size, 134, none⟩ (.bool true))) := HAB.out.setCell (p := ⟨w.heap.size, 134, none⟩) (by simp) _
      have HYS : Hid (w.heap.size + 2 ≤ (w1.setCell ⟨w.heap.size, 134, none⟩ (.bool true)).heap.size) := (by have := (Array.getElem?_eq_some_iff.1 HY2.out).1; omega : w.heap.size + 2 ≤ (w1.setCell ⟨w.heap.size, 134, none⟩ (.bool true)).heap.size)
      clear e1 e2 hp HP1
      go_wp2_with fail
      go_meet
      exact ⟨rfl, HY1, HY2, HYB, HYS⟩
    have f2 : (nm.toList == [114, 97, 110]) = false := by rw [toList_eq]; simp [e2]
    by_cases e3 : nm.data.toList = [102, 97, 117, 108, 116]
    · have f3 : (nm.toList == [102, 97, 117, 108, 116]) = true := by rw [toList_eq]; simp [e3]
      have hp : pre1 r c nm v = c.setIfInBounds 135 (.bool true) := by unfold pre1; rw [if_neg e1, if_neg e2, if_pos e3]
      have r1 : w1.cell? ⟨w.heap.size, 135, none⟩ = some (c[135]'(by rw [HC.out.size]; omega)) := by rw [cell_of_row _ _ _ _ _ _ HA1.out]; exact Array.getElem?_eq_getElem (by rw [HC.out.size]; omega)
      have q1 : w1.frozen? ⟨w.heap.size, 135, none⟩ = false := by have := HA1.out; simp [World.frozen?, this]
      have HY1 : Hid ((w1.setCell ⟨w.heap.size, 135, none⟩ (.bool true)).heap[w.heap.size]? = some (.cells (pre1 r c nm v) 37 (0, 0))) := (by rw [hp]; exact row_put HA1.out _ _ : (w1.setCell ⟨w.heap.size, 135, none⟩ (.bool true)).heap[w.heap.size]? = some (.cells (pre1 r c nm v) 37 (0, 0)))
      have HY2 : Hid ((w1.setCell ⟨w.heap.size, 135, none⟩ (.bool true)).heap[w.heap.size + 1]? = some (.cells Z 37 (0, 0))) := row_other HA2.out _ _ (by omega) _
      have HYB : Hid (Below w.heap.size w (w1.setCell ⟨w.heap.size, 135, none⟩ (.bool true))) := HAB.out.setCell (p := ⟨w.heap.size, 135, none⟩) (by simp) _
      have HYS : Hid (w.heap.size + 2 ≤ (w1.setCell ⟨w.heap.size, 135, none⟩ (.bool true)).heap.size) := (by have := (Array.getElem?_eq_some_iff.1 HY2.out).1; omega : w.heap.size + 2 ≤ (w1.setCell ⟨w.heap.size, 135, none⟩ (.bool true)).heap.size)
      clear e1 e2 e3 hp HP1
      go_wp2_with fail
      go_meet
      exact ⟨rfl, HY1, HY2, HYB, HYS⟩
    have f3 : (nm.toList == [102, 97, 117, 108, 116]) = false := by rw [toList_eq]; simp [e3]
    have hp : pre1 r c nm v = c := by unfold pre1; rw [if_neg e1, if_neg e2, if_neg e3]
    have HY1 : Hid (w1.heap[w.heap.size]? = some (.cells (pre1 r c nm v) 37 (0, 0))) := (by rw [hp]; exact HA1.out : w1.heap[w.heap.size]? = some (.cells (pre1 r c nm v) 37 (0, 0)))
    clear e1 e2 e3 hp HP1
    go_wp2_with fail
    go_meet
    exact ⟨rfl, HY1, HA2, HAB, HAS⟩
  case rest =>
    obtain ⟨rfl, HY1, HY2, HYB, HYS⟩ := hcut
    obtain ⟨P, HPP⟩ : ∃ P, Hid (P = pre1 r c nm v) := ⟨_, rfl⟩
    have HPM : Hid (MemOk P) := (by rw [HPP.out]; exact HP1.out : MemOk P)
    have HX1 : Hid (wc.heap[w.heap.size]? = some (.cells P 37 (0, 0))) := (by rw [HPP.out]; exact HY1.out : wc.heap[w.heap.size]? = some (.cells P 37 (0, 0)))
    have HTc : Hid (T wc) := HR.out.later _ _ HTw.out HYB.out
    have HPOST : Hid (∀ D, PTo r P nm v D → QQ D) := fun D h => by have := HQQ.out D; rw [HPP.out] at h; exact this h
    clear HY1 HP1 HA1 HA2 HAB HAS HTA HC
    go_wp2_with fail
    refine (HDV.out wc HTc.out).mono ?_
    rintro e w2 ⟨rfl, g2⟩
    have HB1 : Hid (w2.heap[w.heap.size]? = some (.cells P 37 (0, 0))) := (g2.block _ (by have := HYS.out; omega)).trans HX1.out
    have HB2 : Hid (w2.heap[w.heap.size + 1]? = some (.cells Z 37 (0, 0))) := (g2.block _ (by have := HYS.out; omega)).trans HY2.out
    have HBB : Hid (Below w.heap.size w w2) := HYB.out.trans (g2.mono HYB.out.size)
    have HBS : Hid (w.heap.size + 2 ≤ w2.heap.size) := (by have := g2.size; have := HYS.out; omega : w.heap.size + 2 ≤ w2.heap.size)
    have hzd := zero_da.1
    clear g2 HX1 HY2 HYB HYS HTc
    go_wp2_with fail
    have HC1 : Hid ((w2.alloc (.cells #[.int .i64 k, .int .i64 (n : Int), .int .i64 q] 54)).heap[w.heap.size]? = some (.cells P 37 (0, 0))) := (((Below.refl w2.heap.size w2).alloc (Nat.le_refl _) _).block _ (by have := HBS.out; omega)).trans HB1.out
    have HC2 : Hid ((w2.alloc (.cells #[.int .i64 k, .int .i64 (n : Int), .int .i64 q] 54)).heap[w.heap.size + 1]? = some (.cells Z 37 (0, 0))) := (((Below.refl w2.heap.size w2).alloc (Nat.le_refl _) _).block _ (by have := HBS.out; omega)).trans HB2.out
    have HCD : Hid ((w2.alloc (.cells #[.int .i64 k, .int .i64 (n : Int), .int .i64 q] 54)).heap[w2.heap.size]? = some (.cells #[.int .i64 k, .int .i64 (n : Int), .int .i64 q] 54 (0, 0))) := heap_alloc_last _ _
    have HCB : Hid (Below w.heap.size w (w2.alloc (.cells #[.int .i64 k, .int .i64 (n : Int), .int .i64 q] 54))) := HBB.out.alloc (by have := HBS.out; omega) _
    have HGD : Hid (w.heap.size + 2 ≤ w2.heap.size) := HBS.out
    generalize (w2.alloc (.cells #[.int .i64 k, .int .i64 (n : Int), .int .i64 q] 54)) = X at HC1 HC2 HCD HCB ⊢
    generalize w2.heap.size = gd at HCD HGD ⊢
    clear HB1 HB2 HBB HBS hzd
    have HST : Hid (∀ V V' : World, (V.heap[w.heap.size]? = some (.cells P 37 (0, 0)) ∧ V.heap[w.heap.size + 1]? = some (.cells Z 37 (0, 0)) ∧ V.heap[gd]? = some (.cells #[.int .i64 k, .int .i64 (n : Int), .int .i64 q] 54 (0, 0)) ∧ Below w.heap.size w V) → Below V.heap.size V V' → (V'.heap[w.heap.size]? = some (.cells P 37 (0, 0)) ∧ V'.heap[w.heap.size + 1]? = some (.cells Z 37 (0, 0)) ∧ V'.heap[gd]? = some (.cells #[.int .i64 k, .int .i64 (n : Int), .int .i64 q] 54 (0, 0)) ∧ Below w.heap.size w V')) := fun V V' h g => by
      obtain ⟨a1, a2, a3, a4⟩ := h
      have l1 := (Array.getElem?_eq_some_iff.1 a3).1
      have l2 := HGD.out
      exact ⟨(g.block _ (by omega)).trans a1, (g.block _ (by omega)).trans a2, (g.block _ l1).trans a3, a4.trans (g.mono a4.size)⟩
    have HX : Hid (X.heap[w.heap.size]? = some (.cells P 37 (0, 0)) ∧ X.heap[w.heap.size + 1]? = some (.cells Z 37 (0, 0)) ∧ X.heap[gd]? = some (.cells #[.int .i64 k, .int .i64 (n : Int), .int .i64 q] 54 (0, 0)) ∧ Below w.heap.size w X) := ⟨HC1.out, HC2.out, HCD.out, HCB.out⟩
    clear HC1 HC2 HCD HCB
    refine (HR.out.h33 v HSZ.out.2 X (HR.out.later _ _ HTw.out HX.out.2.2.2)).mono ?_
    rintro e w3 ⟨rfl, g3⟩
    have HX3 : Hid (w3.heap[w.heap.size]? = some (.cells P 37 (0, 0)) ∧ w3.heap[w.heap.size + 1]? = some (.cells Z 37 (0, 0)) ∧ w3.heap[gd]? = some (.cells #[.int .i64 k, .int .i64 (n : Int), .int .i64 q] 54 (0, 0)) ∧ Below w.heap.size w w3) := HST.out _ _ HX.out g3
    clear g3 HX
    go_wp2_with fail
    refine (HR.out.h43 v HSZ.out.2 w3 (HR.out.later _ _ HTw.out HX3.out.2.2.2)).mono ?_
    rintro e w4 ⟨rfl, g4⟩
    have HX4 : Hid (w4.heap[w.heap.size]? = some (.cells P 37 (0, 0)) ∧ w4.heap[w.heap.size + 1]? = some (.cells Z 37 (0, 0)) ∧ w4.heap[gd]? = some (.cells #[.int .i64 k, .int .i64 (n : Int), .int .i64 q] 54 (0, 0)) ∧ Below w.heap.size w w4) := HST.out _ _ HX3.out g4
    clear g4 HX3
    go_wp2_with fail
    refine (HR.out.trim v HSZ.out.2 w4 (HR.out.later _ _ HTw.out HX4.out.2.2.2)).mono ?_
    rintro e w5 ⟨rfl, g5⟩
    have HX5 : Hid (w5.heap[w.heap.size]? = some (.cells P 37 (0, 0)) ∧ w5.heap[w.heap.size + 1]? = some (.cells Z 37 (0, 0)) ∧ w5.heap[gd]? = some (.cells #[.int .i64 k, .int .i64 (n : Int), .int .i64 q] 54 (0, 0)) ∧ Below w.heap.size w w5) := HST.out _ _ HX4.out g5
    clear g5 HX4
    go_wp2_with fail
    refine (HR.out.num (r.trim v) (by have := HR.out.trimz v; have := HSZ.out.2; omega) w5 (HR.out.later _ _ HTw.out HX5.out.2.2.2)).mono ?_
    rintro e w6 ⟨rfl, g6⟩
    have HX6 : Hid (w6.heap[w.heap.size]? = some (.cells P 37 (0, 0)) ∧ w6.heap[w.heap.size + 1]? = some (.cells Z 37 (0, 0)) ∧ w6.heap[gd]? = some (.cells #[.int .i64 k, .int .i64 (n : Int), .int .i64 q] 54 (0, 0)) ∧ Below w.heap.size w w6) := HST.out _ _ HX5.out g6
    clear g6 HX5
    have rK : w6.cell? ⟨gd, 0, none⟩ = some (.int .i64 k) := (cell_of_row _ _ _ _ _ _ HX6.out.2.2.1).trans rfl
    have rN : w6.cell? ⟨gd, 1, none⟩ = some (.int .i64 (n : Int)) := (cell_of_row _ _ _ _ _ _ HX6.out.2.2.1).trans rfl
    have rQ : w6.cell? ⟨gd, 2, none⟩ = some (.int .i64 q) := (cell_of_row _ _ _ _ _ _ HX6.out.2.2.1).trans rfl
    have hk := HKN.out.1
    have hn := HKN.out.2
    obtain ⟨x0, hx0⟩ : ∃ x, w6.cell? ⟨w.heap.size, 37 + n * 3, none⟩ = some x := by rw [cell_of_row _ _ _ _ _ _ HX6.out.1]; exact ⟨_, Array.getElem?_eq_getElem (by have := HPM.out.size; first | omega | (simp only [Array.size_setIfInBounds]; omega))⟩
    have z0 : w6.frozen? ⟨w.heap.size, 37 + n * 3, none⟩ = false := by have hh := HX6.out.1; simp [World.frozen?, hh]
    have row0 : (w6.setCell ⟨w.heap.size, 37 + n * 3, none⟩ (.bool (r.has33 v))).heap[w.heap.size]? = some (.cells (P.setIfInBounds (37 + n * 3) (.bool (r.has33 v))) 37 (0, 0)) := row_put HX6.out.1 _ _
    obtain ⟨x1, hx1⟩ : ∃ x, (w6.setCell ⟨w.heap.size, 37 + n * 3, none⟩ (.bool (r.has33 v))).cell? ⟨w.heap.size, 37 + n * 3 + 1, none⟩ = some x := by rw [cell_of_row _ _ _ _ _ _ row0]; exact ⟨_, Array.getElem?_eq_getElem (by have := HPM.out.size; first | omega | (simp only [Array.size_setIfInBounds]; omega))⟩
    have z1 : (w6.setCell ⟨w.heap.size, 37 + n * 3, none⟩ (.bool (r.has33 v))).frozen? ⟨w.heap.size, 37 + n * 3 + 1, none⟩ = false := by have hh := row0; simp [World.frozen?, hh]
    have row1 : ((w6.setCell ⟨w.heap.size, 37 + n * 3, none⟩ (.bool (r.has33 v))).setCell ⟨w.heap.size, 37 + n * 3 + 1, none⟩ (.bool (r.has43 v))).heap[w.heap.size]? = some (.cells ((P.setIfInBounds (37 + n * 3) (.bool (r.has33 v))).setIfInBounds (37 + n * 3 + 1) (.bool (r.has43 v))) 37 (0, 0)) := row_put row0 _ _
    obtain ⟨x2, hx2⟩ : ∃ x, ((w6.setCell ⟨w.heap.size, 37 + n * 3, none⟩ (.bool (r.has33 v))).setCell ⟨w.heap.size, 37 + n * 3 + 1, none⟩ (.bool (r.has43 v))).cell? ⟨w.heap.size, 37 + n * 3 + 2, none⟩ = some x := by rw [cell_of_row _ _ _ _ _ _ row1]; exact ⟨_, Array.getElem?_eq_getElem (by have := HPM.out.size; first | omega | (simp only [Array.size_setIfInBounds]; omega))⟩
    have z2 : ((w6.setCell ⟨w.heap.size, 37 + n * 3, none⟩ (.bool (r.has33 v))).setCell ⟨w.heap.size, 37 + n * 3 + 1, none⟩ (.bool (r.has43 v))).frozen? ⟨w.heap.size, 37 + n * 3 + 2, none⟩ = false := by have hh := row1; simp [World.frozen?, hh]
    have row2 : (((w6.setCell ⟨w.heap.size, 37 + n * 3, none⟩ (.bool (r.has33 v))).setCell ⟨w.heap.size, 37 + n * 3 + 1, none⟩ (.bool (r.has43 v))).setCell ⟨w.heap.size, 37 + n * 3 + 2, none⟩ (.int .u16 (IntKind.u16.wrap (r.num (r.trim v))))).heap[w.heap.size]? = some (.cells (((P.setIfInBounds (37 + n * 3) (.bool (r.has33 v))).setIfInBounds (37 + n * 3 + 1) (.bool (r.has43 v))).setIfInBounds (37 + n * 3 + 2) (.int .u16 (IntKind.u16.wrap (r.num (r.trim v))))) 37 (0, 0)) := row_put row1 _ _
    obtain ⟨C, HCC⟩ : ∃ C, Hid (C = (((P.setIfInBounds (37 + n * 3) (.bool (r.has33 v))).setIfInBounds (37 + n * 3 + 1) (.bool (r.has43 v))).setIfInBounds (37 + n * 3 + 2) (.int .u16 (IntKind.u16.wrap (r.num (r.trim v)))))) := ⟨_, rfl⟩
    have HCM : Hid (MemOk C) := (by rw [HCC.out]; exact hh_set (hh_set (hh_set HPM.out _ (hh_bool _ (by rw [kd_h]; repeat (first | rw [if_neg (by omega)] | rw [if_pos (by omega)])))) _ (hh_bool _ (by rw [kd_h]; repeat (first | rw [if_neg (by omega)] | rw [if_pos (by omega)])))) _ (hh_u16 _ (by rw [kd_h]; repeat (first | rw [if_neg (by omega)] | rw [if_pos (by omega)]))) : MemOk C)
    have HR1 : Hid ((((w6.setCell ⟨w.heap.size, 37 + n * 3, none⟩ (.bool (r.has33 v))).setCell ⟨w.heap.size, 37 + n * 3 + 1, none⟩ (.bool (r.has43 v))).setCell ⟨w.heap.size, 37 + n * 3 + 2, none⟩ (.int .u16 (IntKind.u16.wrap (r.num (r.trim v))))).heap[w.heap.size]? = some (.cells C 37 (0, 0))) := (by rw [HCC.out]; exact row2 : (((w6.setCell ⟨w.heap.size, 37 + n * 3, none⟩ (.bool (r.has33 v))).setCell ⟨w.heap.size, 37 + n * 3 + 1, none⟩ (.bool (r.has43 v))).setCell ⟨w.heap.size, 37 + n * 3 + 2, none⟩ (.int .u16 (IntKind.u16.wrap (r.num (r.trim v))))).heap[w.heap.size]? = some (.cells C 37 (0, 0)))
    have HR3 : Hid ((((w6.setCell ⟨w.heap.size, 37 + n * 3, none⟩ (.bool (r.has33 v))).setCell ⟨w.heap.size, 37 + n * 3 + 1, none⟩ (.bool (r.has43 v))).setCell ⟨w.heap.size, 37 + n * 3 + 2, none⟩ (.int .u16 (IntKind.u16.wrap (r.num (r.trim v))))).heap[w.heap.size + 1]? = some (.cells Z 37 (0, 0))) := (row_other (row_other (row_other HX6.out.2.1 _ _ (by omega) _) _ _ (by omega) _) _ _ (by omega) _)
    have HB0 : Hid (Below w.heap.size w (((w6.setCell ⟨w.heap.size, 37 + n * 3, none⟩ (.bool (r.has33 v))).setCell ⟨w.heap.size, 37 + n * 3 + 1, none⟩ (.bool (r.has43 v))).setCell ⟨w.heap.size, 37 + n * 3 + 2, none⟩ (.int .u16 (IntKind.u16.wrap (r.num (r.trim v)))))) := (((HX6.out.2.2.2.setCell (p := ⟨w.heap.size, 37 + n * 3, none⟩) (by simp) _).setCell (p := ⟨w.heap.size, 37 + n * 3 + 1, none⟩) (by simp) _).setCell (p := ⟨w.heap.size, 37 + n * 3 + 2, none⟩) (by simp) _)
    have HTO : Hid (PTo r P nm v C) := (by unfold PTo; rw [HRD.out]; simp only [Int.toNat_natCast]; rw [if_neg (by omega), if_pos hk]; exact HCC.out : PTo r P nm v C)
    have e7 : (k == 7) = false := by rw [hk]; rfl
    have e8 : (k == 8) = true := by rw [hk]; rfl
    have i0 : (0 : Int) ≤ (n : Int) := by omega
    have i9 : (n : Int) < 16 := by omega
    clear hk hn row0 row1 row2 HRD HX6 HST HR HTw HDV HQQ
    have HI : Hid ((Tryz.prog.info? 37).map (·.size) = some C.size) := (by rw [HCM.out.size]; exact zero_mem.2 : (Tryz.prog.info? 37).map (·.size) = some C.size)
    have HLD : Hid ((loadVar 37 ⟨w.heap.size, 0, none⟩).run Tryz.prog (((w6.setCell ⟨w.heap.size, 37 + n * 3, none⟩ (.bool (r.has33 v))).setCell ⟨w.heap.size, 37 + n * 3 + 1, none⟩ (.bool (r.has43 v))).setCell ⟨w.heap.size, 37 + n * 3 + 2, none⟩ (.int .u16 (IntKind.u16.wrap (r.num (r.trim v))))) = .ok (.agg C) (((w6.setCell ⟨w.heap.size, 37 + n * 3, none⟩ (.bool (r.has33 v))).setCell ⟨w.heap.size, 37 + n * 3 + 1, none⟩ (.bool (r.has43 v))).setCell ⟨w.heap.size, 37 + n * 3 + 2, none⟩ (.int .u16 (IntKind.u16.wrap (r.num (r.trim v)))))) := load_all HR1.out _ _ Tryz.underlying37 rfl HI.out
    have HSD : Hid ((storeVar 37 ⟨w.heap.size + 1, 0, none⟩ (.agg C)).run Tryz.prog (((w6.setCell ⟨w.heap.size, 37 + n * 3, none⟩ (.bool (r.has33 v))).setCell ⟨w.heap.size, 37 + n * 3 + 1, none⟩ (.bool (r.has43 v))).setCell ⟨w.heap.size, 37 + n * 3 + 2, none⟩ (.int .u16 (IntKind.u16.wrap (r.num (r.trim v))))) = .ok () ((((w6.setCell ⟨w.heap.size, 37 + n * 3, none⟩ (.bool (r.has33 v))).setCell ⟨w.heap.size, 37 + n * 3 + 1, none⟩ (.bool (r.has43 v))).setCell ⟨w.heap.size, 37 + n * 3 + 2, none⟩ (.int .u16 (IntKind.u16.wrap (r.num (r.trim v))))).setRow (w.heap.size + 1) C)) := store_all HR3.out _ _ (HZs.out.trans HCM.out.size.symm) HI.out HCM.out.one
    have HB : Hid (Below w.heap.size w ((((w6.setCell ⟨w.heap.size, 37 + n * 3, none⟩ (.bool (r.has33 v))).setCell ⟨w.heap.size, 37 + n * 3 + 1, none⟩ (.bool (r.has43 v))).setCell ⟨w.heap.size, 37 + n * 3 + 2, none⟩ (.int .u16 (IntKind.u16.wrap (r.num (r.trim v))))).setRow (w.heap.size + 1) C)) := below_setRow HB0.out (by omega) _
    go_wp2_with (first | (refine wpL_load rfl 37 _ rfl _ _ rfl _ HLD.out ?_) | (refine wpL_store rfl 37 _ _ rfl _ _ rfl _ rfl _ HSD.out ?_) | exact ret_row rfl rfl (row_set HR3.out _) Tryz.underlying37 rfl HI.out rfl ⟨C, rfl, HPOST.out C HTO.out, HB.out⟩ | fail)

set_option maxRecDepth 10000 in
set_option maxHeartbeats 4000000 in
theorem withword_bit {r : Prds} {T : World → Prop} (hr : PrdsOk r T) (c : Array Value) (hc : MemOk c) (s : ByteArray) (hs : s.size ≤ 1048576) (w : World) (hT : T w) (nm v : ByteArray) (fb : Bool) (hcut : r.cut s = (nm, v, fb)) (k : Int) (n : Int) (q : Int) (hrd : r.rd nm = (k, (n : Int), q)) (hk : k ≠ 7 ∧ k ≠ 8 ∧ k ≠ 9 ∧ k ≠ 10) (QQ : Array Value → Prop) (HQQ : Hid (∀ D, PTo r (pre1 r c nm v) nm v D → QQ D)) :
    Calls Tryz.prog 29 #[.agg c, .string s] w fun e w' => ∃ D, e = .returned (.agg D) ∧ QQ D ∧ Below w.heap.size w w' := by
  have HR : Hid (PrdsOk r T) := hr
  have HTw : Hid (T w) := hT
  have HC : Hid (MemOk c) := hc
  have hz := zero_mem.1
  obtain ⟨Z, HZ⟩ : ∃ Z, Hid (Z = memZero) := ⟨_, rfl⟩
  rw [← HZ.out] at hz
  have HZs : Hid (Z.size = 136) := (by rw [HZ.out, memZero_size] : Z.size = 136)
  have HCut : Hid (∀ W, T W → Calls Tryz.prog 82 #[.string s, .string ⟨#[61]⟩] W fun e w' => e = .returned (.tuple #[.string (r.cut s).1, .string (r.cut s).2.1, .bool (r.cut s).2.2]) ∧ Below W.heap.size W w') := hr.cut s hs
  have HSZ : Hid ((r.cut s).1.size ≤ 1048576 ∧ (r.cut s).2.1.size ≤ 1048576) := (by have := hr.cutz s; omega : (r.cut s).1.size ≤ 1048576 ∧ (r.cut s).2.1.size ≤ 1048576)
  rw [hcut] at HCut HSZ
  obtain ⟨W0, HW0⟩ : ∃ W0, Hid (W0 = (w.alloc (.cells c 37)).alloc (.cells Z 37)) := ⟨_, rfl⟩
  have HH1 : Hid (W0.heap[w.heap.size]? = some (.cells c 37 (0, 0))) := (by rw [HW0.out]; exact (rows2 w _ _).1 : W0.heap[w.heap.size]? = some (.cells c 37 (0, 0)))
  have HH2 : Hid (W0.heap[w.heap.size + 1]? = some (.cells Z 37 (0, 0))) := (by rw [HW0.out]; exact (rows2 w _ _).2 : W0.heap[w.heap.size + 1]? = some (.cells Z 37 (0, 0)))
  have HH3 : Hid (W0.heap.size = w.heap.size + 2) := (by rw [HW0.out]; simp : W0.heap.size = w.heap.size + 2)
  have HbW : Hid (Below w.heap.size w W0) := (by rw [HW0.out]; exact ((Below.refl _ _).alloc (Nat.le_refl _) _).alloc (by simp) _ : Below w.heap.size w W0)
  have HDV : Hid (∀ W, T W → Calls Tryz.prog 84 #[.string nm] W fun e w' => e = .returned (.tuple #[.agg #[.int .i64 k, .int .i64 (n : Int), .int .i64 q], .bool (r.rb nm)]) ∧ Below W.heap.size W w') := by have := hr.dev nm HSZ.out.1; rw [hrd] at this; exact this
  have HRD : Hid (r.rd nm = (k, (n : Int), q)) := hrd
  clear hr hT hc hcut hrd
  go_enter Tryz.func29, Tryz.ntmps29
  go_wp2_with fail
  rw [← HW0.out]
  refine (HCut.out W0 (HR.out.later _ _ HTw.out HbW.out)).mono ?_
  rintro e w1 ⟨rfl, g1⟩
  clear HCut HW0 hz
  have HA1 : Hid (w1.heap[w.heap.size]? = some (.cells c 37 (0, 0))) := (g1.block _ (by rw [HH3.out]; omega)).trans HH1.out
  have HA2 : Hid (w1.heap[w.heap.size + 1]? = some (.cells Z 37 (0, 0))) := (g1.block _ (by rw [HH3.out]; omega)).trans HH2.out
  have HAB : Hid (Below w.heap.size w w1) := HbW.out.trans (g1.mono (by rw [HH3.out]; omega))
  have HAS : Hid (w.heap.size + 2 ≤ w1.heap.size) := (by have := g1.size; have := HH3.out; omega : w.heap.size + 2 ≤ w1.heap.size)
  have HTA : Hid (T w1) := HR.out.later _ _ HTw.out HAB.out
  have HP1 : Hid (MemOk (pre1 r c nm v)) := memOk_pre1 r HC.out nm v
  clear g1 HH1 HH2 HH3 HbW
  go_upto_block 0 with fail
  go_cut [6] from 19 to 31 (fun u wc => u = .string v ∧ Hid (wc.heap[w.heap.size]? = some (.cells (pre1 r c nm v) 37 (0, 0))) ∧ Hid (wc.heap[w.heap.size + 1]? = some (.cells Z 37 (0, 0))) ∧ Hid (Below w.heap.size w wc) ∧ Hid (w.heap.size + 2 ≤ wc.heap.size))
  case first =>
    by_cases e1 : nm.data.toList = [116, 105, 109, 101]
    · have f1 : (nm.toList == [116, 105, 109, 101]) = true := by rw [toList_eq]; simp [e1]
      have hp : pre1 r c nm v = c.setIfInBounds 133 (.int .u32 (IntKind.u32.wrap (r.num v))) := by unfold pre1; rw [if_pos e1]
      clear e1
      go_wp2_with fail
      refine (HR.out.num v HSZ.out.2 w1 HTA.out).mono ?_
      rintro e w2 ⟨rfl, g2⟩
      have k1 := (g2.block _ (by have := HAS.out; omega)).trans HA1.out
      have k2 := (g2.block _ (by have := HAS.out; omega)).trans HA2.out
      have kB := HAB.out.trans (g2.mono HAB.out.size)
      have r1 : w2.cell? ⟨w.heap.size, 133, none⟩ = some (c[133]'(by rw [HC.out.size]; omega)) := by rw [cell_of_row _ _ _ _ _ _ k1]; exact Array.getElem?_eq_getElem (by rw [HC.out.size]; omega)
      have q1 : w2.frozen? ⟨w.heap.size, 133, none⟩ = false := by simp [World.frozen?, k1]
      have HY1 : Hid ((w2.setCell ⟨w.heap.size, 133, none⟩ (.int .u32 (IntKind.u32.wrap (r.num v)))).heap[w.heap.size]? = some (.cells (pre1 r c nm v) 37 (0, 0))) := (by rw [hp]; exact row_put k1 _ _ : (w2.setCell ⟨w.heap.size, 133, none⟩ (.int .u32 (IntKind.u32.wrap (r.num v)))).heap[w.heap.size]? = some (.cells (pre1 r c nm v) 37 (0, 0)))
      have HY2 : Hid ((w2.setCell ⟨w.heap.size, 133, none⟩ (.int .u32 (IntKind.u32.wrap (r.num v)))).heap[w.heap.size + 1]? = some (.cells Z 37 (0, 0))) := row_other k2 _ _ (by omega) _
      have HYB : Hid (Below w.heap.size w (w2.setCell ⟨w.heap.size, 133, none⟩ (.int .u32 (IntKind.u32.wrap (r.num v))))) := kB.setCell (p := ⟨w.heap.size, 133, none⟩) (by simp) _
      have HYS : Hid (w.heap.size + 2 ≤ (w2.setCell ⟨w.heap.size, 133, none⟩ (.int .u32 (IntKind.u32.wrap (r.num v)))).heap.size) := (by have := (Array.getElem?_eq_some_iff.1 HY2.out).1; omega : w.heap.size + 2 ≤ (w2.setCell ⟨w.heap.size, 133, none⟩ (.int .u32 (IntKind.u32.wrap (r.num v)))).heap.size)
      clear g2 k1 k2 kB hp HP1
      go_wp2_with fail
      go_meet
      exact ⟨rfl, HY1, HY2, HYB, HYS⟩
    have f1 : (nm.toList == [116, 105, 109, 101]) = false := by rw [toList_eq]; simp [e1]
    by_cases e2 : nm.data.toList = [114, 97, 110]
    · have f2 : (nm.toList == [114, 97, 110]) = true := by rw [toList_eq]; simp [e2]
      have hp : pre1 r c nm v = c.setIfInBounds 134 (.bool true) := by unfold pre1; rw [if_neg e1, if_pos e2]
      have r1 : w1.cell? ⟨w.heap.size, 134, none⟩ = some (c[134]'(by rw [HC.out.size]; omega)) := by rw [cell_of_row _ _ _ _ _ _ HA1.out]; exact Array.getElem?_eq_getElem (by rw [HC.out.size]; omega)
      have q1 : w1.frozen? ⟨w.heap.size, 134, none⟩ = false := by have := HA1.out; simp [World.frozen?, this]
      have HY1 : Hid ((w1.setCell ⟨w.heap.size, 134, none⟩ (.bool true)).heap[w.heap.size]? = some (.cells (pre1 r c nm v) 37 (0, 0))) := (by rw [hp]; exact row_put HA1.out _ _ : (w1.setCell ⟨w.heap.size, 134, none⟩ (.bool true)).heap[w.heap.size]? = some (.cells (pre1 r c nm v) 37 (0, 0)))
      have HY2 : Hid ((w1.setCell ⟨w.heap.size, 134, none⟩ (.bool true)).heap[w.heap.size + 1]? = some (.cells Z 37 (0, 0))) := row_other HA2.out _ _ (by omega) _
      have HYB : Hid (Below w.heap.size w (w1.setCell ⟨w.heap.size, 134, none⟩ (.bool true))) := HAB.out.setCell (p := ⟨w.heap.size, 134, none⟩) (by simp) _
      have HYS : Hid (w.heap.size + 2 ≤ (w1.setCell ⟨w.heap.size, 134, none⟩ (.bool true)).heap.size) := (by have := (Array.getElem?_eq_some_iff.1 HY2.out).1; omega : w.heap.size + 2 ≤ (w1.setCell ⟨w.heap.size, 134, none⟩ (.bool true)).heap.size)
      clear e1 e2 hp HP1
      go_wp2_with fail
      go_meet
      exact ⟨rfl, HY1, HY2, HYB, HYS⟩
    have f2 : (nm.toList == [114, 97, 110]) = false := by rw [toList_eq]; simp [e2]
    by_cases e3 : nm.data.toList = [102, 97, 117, 108, 116]
    · have f3 : (nm.toList == [102, 97, 117, 108, 116]) = true := by rw [toList_eq]; simp [e3]
      have hp : pre1 r c nm v = c.setIfInBounds 135 (.bool true) := by unfold pre1; rw [if_neg e1, if_neg e2, if_pos e3]
      have r1 : w1.cell? ⟨w.heap.size, 135, none⟩ = some (c[135]'(by rw [HC.out.size]; omega)) := by rw [cell_of_row _ _ _ _ _ _ HA1.out]; exact Array.getElem?_eq_getElem (by rw [HC.out.size]; omega)
      have q1 : w1.frozen? ⟨w.heap.size, 135, none⟩ = false := by have := HA1.out; simp [World.frozen?, this]
      have HY1 : Hid ((w1.setCell ⟨w.heap.size, 135, none⟩ (.bool true)).heap[w.heap.size]? = some (.cells (pre1 r c nm v) 37 (0, 0))) := (by rw [hp]; exact row_put HA1.out _ _ : (w1.setCell ⟨w.heap.size, 135, none⟩ (.bool true)).heap[w.heap.size]? = some (.cells (pre1 r c nm v) 37 (0, 0)))
      have HY2 : Hid ((w1.setCell ⟨w.heap.size, 135, none⟩ (.bool true)).heap[w.heap.size + 1]? = some (.cells Z 37 (0, 0))) := row_other HA2.out _ _ (by omega) _
      have HYB : Hid (Below w.heap.size w (w1.setCell ⟨w.heap.size, 135, none⟩ (.bool true))) := HAB.out.setCell (p := ⟨w.heap.size, 135, none⟩) (by simp) _
      have HYS : Hid (w.heap.size + 2 ≤ (w1.setCell ⟨w.heap.size, 135, none⟩ (.bool true)).heap.size) := (by have := (Array.getElem?_eq_some_iff.1 HY2.out).1; omega : w.heap.size + 2 ≤ (w1.setCell ⟨w.heap.size, 135, none⟩ (.bool true)).heap.size)
      clear e1 e2 e3 hp HP1
      go_wp2_with fail
      go_meet
      exact ⟨rfl, HY1, HY2, HYB, HYS⟩
    have f3 : (nm.toList == [102, 97, 117, 108, 116]) = false := by rw [toList_eq]; simp [e3]
    have hp : pre1 r c nm v = c := by unfold pre1; rw [if_neg e1, if_neg e2, if_neg e3]
    have HY1 : Hid (w1.heap[w.heap.size]? = some (.cells (pre1 r c nm v) 37 (0, 0))) := (by rw [hp]; exact HA1.out : w1.heap[w.heap.size]? = some (.cells (pre1 r c nm v) 37 (0, 0)))
    clear e1 e2 e3 hp HP1
    go_wp2_with fail
    go_meet
    exact ⟨rfl, HY1, HA2, HAB, HAS⟩
  case rest =>
    obtain ⟨rfl, HY1, HY2, HYB, HYS⟩ := hcut
    obtain ⟨P, HPP⟩ : ∃ P, Hid (P = pre1 r c nm v) := ⟨_, rfl⟩
    have HPM : Hid (MemOk P) := (by rw [HPP.out]; exact HP1.out : MemOk P)
    have HX1 : Hid (wc.heap[w.heap.size]? = some (.cells P 37 (0, 0))) := (by rw [HPP.out]; exact HY1.out : wc.heap[w.heap.size]? = some (.cells P 37 (0, 0)))
    have HTc : Hid (T wc) := HR.out.later _ _ HTw.out HYB.out
    have HPOST : Hid (∀ D, PTo r P nm v D → QQ D) := fun D h => by have := HQQ.out D; rw [HPP.out] at h; exact this h
    clear HY1 HP1 HA1 HA2 HAB HAS HTA HC
    go_wp2_with fail
    refine (HDV.out wc HTc.out).mono ?_
    rintro e w2 ⟨rfl, g2⟩
    have HB1 : Hid (w2.heap[w.heap.size]? = some (.cells P 37 (0, 0))) := (g2.block _ (by have := HYS.out; omega)).trans HX1.out
    have HB2 : Hid (w2.heap[w.heap.size + 1]? = some (.cells Z 37 (0, 0))) := (g2.block _ (by have := HYS.out; omega)).trans HY2.out
    have HBB : Hid (Below w.heap.size w w2) := HYB.out.trans (g2.mono HYB.out.size)
    have HBS : Hid (w.heap.size + 2 ≤ w2.heap.size) := (by have := g2.size; have := HYS.out; omega : w.heap.size + 2 ≤ w2.heap.size)
    have hzd := zero_da.1
    clear g2 HX1 HY2 HYB HYS HTc
    go_wp2_with fail
    have HC1 : Hid ((w2.alloc (.cells #[.int .i64 k, .int .i64 (n : Int), .int .i64 q] 54)).heap[w.heap.size]? = some (.cells P 37 (0, 0))) := (((Below.refl w2.heap.size w2).alloc (Nat.le_refl _) _).block _ (by have := HBS.out; omega)).trans HB1.out
    have HC2 : Hid ((w2.alloc (.cells #[.int .i64 k, .int .i64 (n : Int), .int .i64 q] 54)).heap[w.heap.size + 1]? = some (.cells Z 37 (0, 0))) := (((Below.refl w2.heap.size w2).alloc (Nat.le_refl _) _).block _ (by have := HBS.out; omega)).trans HB2.out
    have HCD : Hid ((w2.alloc (.cells #[.int .i64 k, .int .i64 (n : Int), .int .i64 q] 54)).heap[w2.heap.size]? = some (.cells #[.int .i64 k, .int .i64 (n : Int), .int .i64 q] 54 (0, 0))) := heap_alloc_last _ _
    have HCB : Hid (Below w.heap.size w (w2.alloc (.cells #[.int .i64 k, .int .i64 (n : Int), .int .i64 q] 54))) := HBB.out.alloc (by have := HBS.out; omega) _
    have HGD : Hid (w.heap.size + 2 ≤ w2.heap.size) := HBS.out
    generalize (w2.alloc (.cells #[.int .i64 k, .int .i64 (n : Int), .int .i64 q] 54)) = X at HC1 HC2 HCD HCB ⊢
    generalize w2.heap.size = gd at HCD HGD ⊢
    clear HB1 HB2 HBB HBS hzd
    have HST : Hid (∀ V V' : World, (V.heap[w.heap.size]? = some (.cells P 37 (0, 0)) ∧ V.heap[w.heap.size + 1]? = some (.cells Z 37 (0, 0)) ∧ V.heap[gd]? = some (.cells #[.int .i64 k, .int .i64 (n : Int), .int .i64 q] 54 (0, 0)) ∧ Below w.heap.size w V) → Below V.heap.size V V' → (V'.heap[w.heap.size]? = some (.cells P 37 (0, 0)) ∧ V'.heap[w.heap.size + 1]? = some (.cells Z 37 (0, 0)) ∧ V'.heap[gd]? = some (.cells #[.int .i64 k, .int .i64 (n : Int), .int .i64 q] 54 (0, 0)) ∧ Below w.heap.size w V')) := fun V V' h g => by
      obtain ⟨a1, a2, a3, a4⟩ := h
      have l1 := (Array.getElem?_eq_some_iff.1 a3).1
      have l2 := HGD.out
      exact ⟨(g.block _ (by omega)).trans a1, (g.block _ (by omega)).trans a2, (g.block _ l1).trans a3, a4.trans (g.mono a4.size)⟩
    have HX : Hid (X.heap[w.heap.size]? = some (.cells P 37 (0, 0)) ∧ X.heap[w.heap.size + 1]? = some (.cells Z 37 (0, 0)) ∧ X.heap[gd]? = some (.cells #[.int .i64 k, .int .i64 (n : Int), .int .i64 q] 54 (0, 0)) ∧ Below w.heap.size w X) := ⟨HC1.out, HC2.out, HCD.out, HCB.out⟩
    clear HC1 HC2 HCD HCB
    refine (HR.out.h33 v HSZ.out.2 X (HR.out.later _ _ HTw.out HX.out.2.2.2)).mono ?_
    rintro e w3 ⟨rfl, g3⟩
    have HX3 : Hid (w3.heap[w.heap.size]? = some (.cells P 37 (0, 0)) ∧ w3.heap[w.heap.size + 1]? = some (.cells Z 37 (0, 0)) ∧ w3.heap[gd]? = some (.cells #[.int .i64 k, .int .i64 (n : Int), .int .i64 q] 54 (0, 0)) ∧ Below w.heap.size w w3) := HST.out _ _ HX.out g3
    clear g3 HX
    go_wp2_with fail
    refine (HR.out.h43 v HSZ.out.2 w3 (HR.out.later _ _ HTw.out HX3.out.2.2.2)).mono ?_
    rintro e w4 ⟨rfl, g4⟩
    have HX4 : Hid (w4.heap[w.heap.size]? = some (.cells P 37 (0, 0)) ∧ w4.heap[w.heap.size + 1]? = some (.cells Z 37 (0, 0)) ∧ w4.heap[gd]? = some (.cells #[.int .i64 k, .int .i64 (n : Int), .int .i64 q] 54 (0, 0)) ∧ Below w.heap.size w w4) := HST.out _ _ HX3.out g4
    clear g4 HX3
    go_wp2_with fail
    refine (HR.out.trim v HSZ.out.2 w4 (HR.out.later _ _ HTw.out HX4.out.2.2.2)).mono ?_
    rintro e w5 ⟨rfl, g5⟩
    have HX5 : Hid (w5.heap[w.heap.size]? = some (.cells P 37 (0, 0)) ∧ w5.heap[w.heap.size + 1]? = some (.cells Z 37 (0, 0)) ∧ w5.heap[gd]? = some (.cells #[.int .i64 k, .int .i64 (n : Int), .int .i64 q] 54 (0, 0)) ∧ Below w.heap.size w w5) := HST.out _ _ HX4.out g5
    clear g5 HX4
    go_wp2_with fail
    refine (HR.out.num (r.trim v) (by have := HR.out.trimz v; have := HSZ.out.2; omega) w5 (HR.out.later _ _ HTw.out HX5.out.2.2.2)).mono ?_
    rintro e w6 ⟨rfl, g6⟩
    have HX6 : Hid (w6.heap[w.heap.size]? = some (.cells P 37 (0, 0)) ∧ w6.heap[w.heap.size + 1]? = some (.cells Z 37 (0, 0)) ∧ w6.heap[gd]? = some (.cells #[.int .i64 k, .int .i64 (n : Int), .int .i64 q] 54 (0, 0)) ∧ Below w.heap.size w w6) := HST.out _ _ HX5.out g6
    clear g6 HX5
    have rK : w6.cell? ⟨gd, 0, none⟩ = some (.int .i64 k) := (cell_of_row _ _ _ _ _ _ HX6.out.2.2.1).trans rfl
    have rN : w6.cell? ⟨gd, 1, none⟩ = some (.int .i64 (n : Int)) := (cell_of_row _ _ _ _ _ _ HX6.out.2.2.1).trans rfl
    have rQ : w6.cell? ⟨gd, 2, none⟩ = some (.int .i64 q) := (cell_of_row _ _ _ _ _ _ HX6.out.2.2.1).trans rfl
    have HPB : Hid (∀ V, KT V → Calls Tryz.prog 61 #[.agg P, .agg #[.int .i64 k, .int .i64 (n : Int), .int .i64 q], .bool true] V fun e w' => e = .returned (.agg (putx P k n)) ∧ Below V.heap.size V w') := fun V h => withx_i P HPM.out k n q V h
    obtain ⟨C, HCC⟩ : ∃ C, Hid (C = putx P k n) := ⟨_, rfl⟩
    rw [← HCC.out] at HPB
    have HCM : Hid (MemOk C) := (by rw [HCC.out]; exact memOk_putx HPM.out _ _ : MemOk C)
    have HTO : Hid (PTo r P nm v C) := (by unfold PTo; rw [HRD.out]; simp only; rw [if_neg hk.1, if_neg hk.2.1, if_neg hk.2.2.1, if_neg hk.2.2.2]; exact HCC.out : PTo r P nm v C)
    have e7 : (k == 7) = false := by simp [hk.1]
    have e8 : (k == 8) = false := by simp [hk.2.1]
    have e9 : (k == 9) = false := by simp [hk.2.2.1]
    have e10 : (k == 10) = false := by simp [hk.2.2.2]
    have HIP : Hid ((Tryz.prog.info? 37).map (·.size) = some P.size) := (by rw [HPM.out.size]; exact zero_mem.2 : (Tryz.prog.info? 37).map (·.size) = some P.size)
    have HLP : Hid ((loadVar 37 ⟨w.heap.size, 0, none⟩).run Tryz.prog w6 = .ok (.agg P) w6) := load_all HX6.out.1 _ _ Tryz.underlying37 rfl HIP.out
    clear hk HRD
    go_wp2_with (first | (refine wpL_load rfl 37 _ rfl _ _ rfl _ HLP.out ?_) | fail)
    refine (HPB.out w6 (HR.out.kt _ (HR.out.later _ _ HTw.out HX6.out.2.2.2))).mono ?_
    rintro e w7 ⟨rfl, g7⟩
    have HX7 := HST.out _ _ HX6.out g7
    have HICC : (Tryz.prog.info? 37).map (·.size) = some C.size := by rw [HCM.out.size]; exact zero_mem.2
    have HS7 : Hid ((storeVar 37 ⟨w.heap.size, 0, none⟩ (.agg C)).run Tryz.prog w7 = .ok () (w7.setRow w.heap.size C)) := store_all HX7.1 _ _ (HPM.out.size.trans HCM.out.size.symm) HICC HCM.out.one
    have HR1 : Hid ((w7.setRow w.heap.size C).heap[w.heap.size]? = some (.cells C 37 (0, 0))) := row_set HX7.1 _
    have HR3 : Hid ((w7.setRow w.heap.size C).heap[w.heap.size + 1]? = some (.cells Z 37 (0, 0))) := row_beside HX7.2.1 _ (by omega) _
    have HB0 : Hid (Below w.heap.size w (w7.setRow w.heap.size C)) := below_setRow HX7.2.2.2 (Nat.le_refl _) _
    clear g7 HX7 HICC HX6 HST HR HTw HDV HQQ HLP rK rN rQ
    have HI : Hid ((Tryz.prog.info? 37).map (·.size) = some C.size) := (by rw [HCM.out.size]; exact zero_mem.2 : (Tryz.prog.info? 37).map (·.size) = some C.size)
    have HLD : Hid ((loadVar 37 ⟨w.heap.size, 0, none⟩).run Tryz.prog (w7.setRow w.heap.size C) = .ok (.agg C) (w7.setRow w.heap.size C)) := load_all HR1.out _ _ Tryz.underlying37 rfl HI.out
    have HSD : Hid ((storeVar 37 ⟨w.heap.size + 1, 0, none⟩ (.agg C)).run Tryz.prog (w7.setRow w.heap.size C) = .ok () ((w7.setRow w.heap.size C).setRow (w.heap.size + 1) C)) := store_all HR3.out _ _ (HZs.out.trans HCM.out.size.symm) HI.out HCM.out.one
    have HB : Hid (Below w.heap.size w ((w7.setRow w.heap.size C).setRow (w.heap.size + 1) C)) := below_setRow HB0.out (by omega) _
    go_wp2_with (first | (refine wpL_store rfl 37 _ _ rfl _ _ rfl _ rfl _ HS7.out ?_) | (refine wpL_load rfl 37 _ rfl _ _ rfl _ HLD.out ?_) | (refine wpL_store rfl 37 _ _ rfl _ _ rfl _ rfl _ HSD.out ?_) | exact ret_row rfl rfl (row_set HR3.out _) Tryz.underlying37 rfl HI.out rfl ⟨C, rfl, HPOST.out C HTO.out, HB.out⟩ | fail)

end Go.Proofs.YtjnddfpieogpiaaGreatDoor
