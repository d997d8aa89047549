/- The program parts a line of a list at its spaces: strings.TrimLeft at a space, listScan. -/
import Derived.Test.YtndfmgbdfcggmaaGreatDoorHaM
import Derived.Test.YtndfmgbdfcggmaaGreatDoorGaM
import Derived.Deep.MidRow
import Derived.RegionTactic
import Derived.ChangeAlike
namespace Go.Proofs.YtndfmgbdfcggmaaGreatDoor
open Go.RowKit
set_option linter.unusedVariables false

theorem lwords_sp (l : List UInt8) : lwords (32 :: l) = lwords l := by unfold lwords pieces; simp [cutA]
def dropSp (l : List UInt8) : List UInt8 := l.dropWhile (· == 32)
theorem dropSp_sp (l : List UInt8) : dropSp (32 :: l) = dropSp l := by unfold dropSp; simp
theorem dropSp_no {a : UInt8} {l : List UInt8} (h : a ≠ 32) : dropSp (a :: l) = a :: l := by unfold dropSp; simp [h]
theorem lwords_drop : ∀ l : List UInt8, lwords (dropSp l) = lwords l
  | [] => rfl
  | a :: l => by
    by_cases h : a = 32
    · rw [h, dropSp_sp, lwords_sp, lwords_drop l]
    · rw [dropSp_no h]
theorem dropSp_head : ∀ (l : List UInt8) {a : UInt8} {r : List UInt8}, dropSp l = a :: r → a ≠ 32
  | [], a, r, h => by simp [dropSp] at h
  | b :: l, a, r, h => by
    by_cases hb : b = 32
    · rw [hb, dropSp_sp] at h; exact dropSp_head l h
    · rw [dropSp_no hb] at h
      simp only [List.cons.injEq] at h
      rw [← h.1]; exact hb
theorem data_drop1 (r : ByteArray) (h : 0 < r.size) : r.data.toList = (r[0]'h) :: (r.extract 1 r.size).data.toList := by
  have h1 := drop_byte r 0 h
  rw [List.drop_zero] at h1
  rw [h1, seg_data]
  unfold seg
  rw [List.take_of_length_le (by simp)]
/-- A text without its first spaces. -/
def IsTrim (s : ByteArray) (w : World) (e : Ending) (w' : World) : Prop := ∃ r : ByteArray, e = .returned (.string r) ∧ r.data.toList = dropSp s.data.toList ∧ w' = w

set_option maxRecDepth 10000 in
set_option maxHeartbeats 2000000 in
theorem trimb_i (s : ByteArray) (w : World) : Calls Tryz.prog 110 #[.string s, .int .u8 32] w fun e w' => IsTrim s w e w' := by
  go_enter Tryz.func110, Tryz.ntmps110
  go_wp2
  go_loopg [0] s.size (fun g o wr => ∃ r : ByteArray, g = r.size ∧ o = .string r ∧ Hid (dropSp r.data.toList = dropSp s.data.toList) ∧ wr = w)
  case atStart => exact ⟨s, rfl, rfl, rfl, rfl⟩
  case round =>
    obtain ⟨r, rfl, rfl, HD, rfl⟩ := hrel
    by_cases h0 : 0 < r.size
    · have i1 : (0 : Int) < (r.size : Int) := by omega
      have hd := data_drop1 r h0
      by_cases hb : (r[0]'h0) = 32
      · have e1 : ((((r[0]'h0).toNat : Nat) : Int) == 32) = true := by rw [hb]; rfl
        have q1 : ((1 : Int) ≤ (r.size : Int)) := by omega
        have HD1 : Hid (dropSp (r.extract 1 r.size).data.toList = dropSp s.data.toList) := by
          show dropSp (r.extract 1 r.size).data.toList = dropSp s.data.toList
          rw [← HD.out, hd, hb, dropSp_sp]
        have hsz : (r.extract 1 r.size).size = r.size - 1 := by simp
        clear hd hb
        go_wp2
        go_roundg (r.size - 1)
        case measure => omega
        case rel => exact ⟨_, hsz.symm, rfl, HD1, rfl⟩
      · have e1 : ((((r[0]'h0).toNat : Nat) : Int) == 32) = false := by
          have : (r[0]'h0).toNat ≠ 32 := fun e => hb (UInt8.toNat.inj e)
          rw [beq_eq_false_iff_ne]
          omega
        have HF : Hid (IsTrim s wr (.returned (.string r)) wr) := ⟨r, rfl, by rw [← HD.out, hd, dropSp_no hb], rfl⟩
        clear hd hb HD
        go_wp2
        go_ret
        exact HF.out
    · have i1 : ¬ ((0 : Int) < (r.size : Int)) := by omega
      have hd : r.data.toList = [] := List.length_eq_zero_iff.1 (by rw [Array.length_toList]; show r.size = 0; omega)
      have HF : Hid (IsTrim s wr (.returned (.string r)) wr) := ⟨r, rfl, by rw [← HD.out, hd]; rfl, rfl⟩
      clear hd HD
      go_wp2
      go_ret
      exact HF.out

set_option maxRecDepth 100000 in
set_option maxHeartbeats 2000000 in
theorem trim_i (s : ByteArray) (w : World) : Calls Tryz.prog 79 #[.string s, .string ⟨#[32]⟩] w fun e w' => IsTrim s w e w' := by
  have k1 : ((⟨#[32]⟩ : ByteArray).toList == []) = false := by decide +kernel
  have k2 : (⟨#[32]⟩ : ByteArray).size = 1 := rfl
  by_cases h : s.toList = []
  · have f1 : (s.toList == []) = true := by rw [h]; rfl
    have hd : s.data.toList = [] := by rw [← Lib.toList_data]; exact h
    have HF : Hid (IsTrim s w (.returned (.string s)) w) := ⟨s, rfl, by rw [hd]; rfl, rfl⟩
    clear hd h
    go_enter Tryz.func79, Tryz.ntmps79
    go_wp2
    go_ret
    exact HF.out
  · have f1 : (s.toList == []) = false := by rw [beq_eq_false_iff_ne]; exact h
    clear h
    go_enter Tryz.func79, Tryz.ntmps79
    go_wp2_with fail
    refine (trimb_i s w).mono ?_
    intro e w1 hT
    obtain ⟨r, rfl, hr, rfl⟩ := hT
    have HF : Hid (IsTrim s w1 (.returned (.string r)) w1) := ⟨r, rfl, hr, rfl⟩
    clear hr
    go_wp2
    go_ret
    exact HF.out

/-- The word at a place of a line, nothing where there is none. -/
def wdAt (ws : List (List UInt8)) (j : Nat) : ByteArray := ⟨(ws.getD j []).toArray⟩
theorem wd_here {ws us : List (List UInt8)} {i : Nat} {x : ByteArray} (h : us = ws.drop i) (hx : x.data.toList = us.headD []) : x = wdAt ws i := by
  unfold wdAt
  apply ByteArray.ext
  apply Array.toList_inj.1
  rw [hx, h]
  simp [List.headD_eq_head?_getD, List.head?_drop]
theorem wd_next {ws us vs : List (List UInt8)} {i : Nat} (h : us = ws.drop i) (hv : vs = us.tail) : vs = ws.drop (i + 1) := by
  rw [hv, h, List.tail_drop]
theorem scan_cut {r : ByteArray} {n : Nat} (a : NoSp r n) (h : n < r.size) (hb : (r[n]'h) = 32) (h0 : dropSp r.data.toList = r.data.toList) :
    (r.extract 0 n).data.toList = (lwords r.data.toList).headD [] ∧ lwords (r.extract n r.size).data.toList = (lwords r.data.toList).tail := by
  have hz : n ≠ 0 := fun e => by
    subst e
    have hd := data_drop1 r h
    rw [hb] at hd
    exact dropSp_head r.data.toList (h0.trans hd) rfl
  have hc := lwords_cut a h hb
  rw [if_neg hz] at hc
  have he : (r.extract n r.size).data.toList = 32 :: (r.extract (n + 1) r.size).data.toList := by
    have e1 : (r.extract n r.size).data.toList = r.data.toList.drop n := by rw [seg_data]; unfold seg; rw [List.take_of_length_le (by simp)]
    have e2 : (r.extract (n + 1) r.size).data.toList = r.data.toList.drop (n + 1) := by rw [seg_data]; unfold seg; rw [List.take_of_length_le (by simp)]
    rw [e1, e2, drop_byte r n h, hb]
  rw [hc, he, lwords_sp]
  simp
theorem scan_end {r : ByteArray} (a : NoSp r r.size) : r.data.toList = (lwords r.data.toList).headD [] ∧ lwords (⟨#[]⟩ : ByteArray).data.toList = (lwords r.data.toList).tail := by
  rcases Nat.eq_zero_or_pos r.size with h0 | h0
  · have hd : r.data.toList = [] := List.length_eq_zero_iff.1 (by rw [Array.length_toList]; exact h0)
    rw [hd]; exact ⟨rfl, rfl⟩
  · rw [lwords_last a h0]; exact ⟨rfl, rfl⟩
/-- The first words of a line, so far. -/
def Sofar (ws : List (List UInt8)) (i : Nat) (C : Array Value) : Prop := C.size = 3 ∧ ∀ j, j < i → C[j]? = some (.string (wdAt ws j))
theorem sofar_next {ws : List (List UInt8)} {i : Nat} {C : Array Value} (h : Sofar ws i C) (hi : i < 3) {x : ByteArray} (hx : x = wdAt ws i) : Sofar ws (i + 1) (C.setIfInBounds i (.string x)) := by
  refine ⟨by simp [h.1], fun j hj => ?_⟩
  by_cases e : j = i
  · subst e
    rw [Array.getElem?_setIfInBounds_self, if_pos (by rw [h.1]; exact hi), hx]
  · rw [Array.getElem?_setIfInBounds_ne (Ne.symm e)]
    exact h.2 j (by omega)
theorem sofar_all {ws : List (List UInt8)} {C : Array Value} (h : Sofar ws 3 C) : C = #[.string (wdAt ws 0), .string (wdAt ws 1), .string (wdAt ws 2)] := by
  apply Array.ext_getElem?
  intro j
  rcases Nat.lt_or_ge j 3 with hj | hj
  · rw [h.2 j hj]
    rcases (by omega : j = 0 ∨ j = 1 ∨ j = 2) with rfl | rfl | rfl <;> rfl
  · rw [Array.getElem?_eq_none (by rw [h.1]; exact hj), Array.getElem?_eq_none (by simpa using hj)]

set_option maxRecDepth 10000 in
set_option maxHeartbeats 8000000 in
theorem scan_i (s : ByteArray) (w : World) (hs : s.size ≤ 4194304) :
    Calls Tryz.prog 57 #[.string s] w fun e w' => e = .returned (.agg #[.string (wdAt (lwords s.data.toList) 0), .string (wdAt (lwords s.data.toList) 1), .string (wdAt (lwords s.data.toList) 2)]) ∧ Below w.heap.size w w' := by
  obtain ⟨ws, HWS⟩ : ∃ ws, Hid (ws = lwords s.data.toList) := ⟨_, rfl⟩
  rw [← HWS.out]
  obtain ⟨B, hB⟩ : ∃ B, B = w.heap.size + 1 := ⟨_, rfl⟩
  have k2 := heap_alloc_last (w.alloc (.cells #[.string ⟨#[]⟩, .string ⟨#[]⟩, .string ⟨#[]⟩] 88)) (.cells #[.string ⟨#[]⟩, .string ⟨#[]⟩, .string ⟨#[]⟩] 88)
  have g0 : Below w.heap.size w ((w.alloc (.cells #[.string ⟨#[]⟩, .string ⟨#[]⟩, .string ⟨#[]⟩] 88)).alloc (.cells #[.string ⟨#[]⟩, .string ⟨#[]⟩, .string ⟨#[]⟩] 88)) := ((Below.refl _ _).alloc (Nat.le_refl _) _).alloc (by simp) _
  rw [World.size_alloc, ← hB] at k2
  have r2 : ((w.alloc (.cells #[.string ⟨#[]⟩, .string ⟨#[]⟩, .string ⟨#[]⟩] 88)).alloc (.cells #[.string ⟨#[]⟩, .string ⟨#[]⟩, .string ⟨#[]⟩] 88)).heap[w.heap.size]? = some (.cells #[.string ⟨#[]⟩, .string ⟨#[]⟩, .string ⟨#[]⟩] 88 (0, 0)) := by
    rw [heap_alloc_old _ _ (h := by simp)]; exact heap_alloc_last w _
  have HST : Hid (((w.alloc (.cells #[.string ⟨#[]⟩, .string ⟨#[]⟩, .string ⟨#[]⟩] 88)).alloc (.cells #[.string ⟨#[]⟩, .string ⟨#[]⟩, .string ⟨#[]⟩] 88)).heap[B]? = some (.cells #[.string ⟨#[]⟩, .string ⟨#[]⟩, .string ⟨#[]⟩] 88 (0, 0)) ∧ ((w.alloc (.cells #[.string ⟨#[]⟩, .string ⟨#[]⟩, .string ⟨#[]⟩] 88)).alloc (.cells #[.string ⟨#[]⟩, .string ⟨#[]⟩, .string ⟨#[]⟩] 88)).heap[w.heap.size]? = some (.cells #[.string ⟨#[]⟩, .string ⟨#[]⟩, .string ⟨#[]⟩] 88 (0, 0)) ∧ Below w.heap.size w ((w.alloc (.cells #[.string ⟨#[]⟩, .string ⟨#[]⟩, .string ⟨#[]⟩] 88)).alloc (.cells #[.string ⟨#[]⟩, .string ⟨#[]⟩, .string ⟨#[]⟩] 88)) ∧ Sofar ws 0 #[.string ⟨#[]⟩, .string ⟨#[]⟩, .string ⟨#[]⟩]) := ⟨k2, r2, g0, rfl, fun j hj => by omega⟩
  have HBB : Hid (B = w.heap.size + 1) := hB
  clear k2 g0 r2
  go_enter Tryz.func57, Tryz.ntmps57
  go_wp2_with fail
  go_step3
  go_wp2_with fail
  go_step3
  go_wp2_with fail
  rw [← hB]
  clear hB
  go_loopg [4, 9] 3 (fun g rs i wr => ∃ (n : Nat) (r : ByteArray) (C : Array Value), n + g = 3 ∧ i = .int .i64 n ∧ rs = .string r ∧ r.size ≤ 4194304 ∧ Hid (wr.heap[B]? = some (.cells C 88 (0, 0)) ∧ wr.heap[w.heap.size]? = some (.cells #[.string ⟨#[]⟩, .string ⟨#[]⟩, .string ⟨#[]⟩] 88 (0, 0)) ∧ Below w.heap.size w wr ∧ Sofar ws n C) ∧ Hid (lwords r.data.toList = ws.drop n))
  case atStart => exact ⟨0, s, _, by omega, rfl, rfl, hs, HST, by show lwords s.data.toList = ws.drop 0; rw [HWS.out]; rfl⟩
  case round =>
    clear HST
    obtain ⟨n, r, C, hn, rfl, rfl, hr4, HH, HL⟩ := hrel
    obtain ⟨go, hgo⟩ : ∃ go, go = gk := ⟨_, rfl⟩
    by_cases hlt : n < 3
    · have i1 : (n : Int) < 3 := by omega
      have i3 : (0 : Int) ≤ (n : Int) := by omega
      go_wp2_with fail
      refine (trim_i r wr).mono ?_
      intro e w1 hT
      obtain ⟨q, rfl, hq, rfl⟩ := hT
      have hqs : q.size ≤ 4194304 := by
        have h1 : q.data.toList.length ≤ r.data.toList.length := by rw [hq]; unfold dropSp; exact (List.dropWhile_sublist _).length_le
        rw [Array.length_toList, Array.length_toList] at h1
        have : q.size ≤ r.size := h1
        omega
      have HQ : Hid (dropSp q.data.toList = q.data.toList ∧ lwords q.data.toList = ws.drop n) := by
        refine ⟨?_, by rw [hq, lwords_drop]; exact HL.out⟩
        rw [hq]
        cases hd : dropSp r.data.toList with
        | nil => rfl
        | cons a l => exact dropSp_no (dropSp_head _ hd)
      have Bl : B < w1.heap.size := (Array.getElem?_eq_some_iff.1 HH.out.1).1
      have Bw : w.heap.size < B := by have := HBB.out; omega
      clear hq HL
      go_wp2_with fail
      go_loopg [4] q.size (fun g rs w2 => ∃ pos : Nat, g = q.size - pos ∧ rs = .string q ∧ w2 = w1.iter q pos ∧ Hid (NoSp q pos))
      case atStart => exact ⟨0, by omega, rfl, rfl, NoSp.zero q⟩
      case round =>
        obtain ⟨pos, rfl, rfl, rfl, HN⟩ := hrel
        have kI : ∀ p, (w1.iter q p).heap[B]? = some (.cells C 88 (0, 0)) := fun p => (heap_alloc_old _ _ (h := Bl)).trans HH.out.1
        by_cases hp : pos < q.size
        · have hsz : w1.heap.size < (w1.iter q (pos + (Utf8.decode q pos).2)).heap.size := by simp [World.iter]
          by_cases ha : (q[pos]'hp).toNat < 128
          · have hnx : ∀ ty, (Instr.next (.pointer (some ⟨w1.heap.size, 0, none⟩)) true ty).run Tryz.prog (w1.iter q pos) = _ := fun ty => run_next_ascii w1 q pos ty hp ha
            by_cases hb : (q[pos]'hp) = 32
            · have e2 : ((((q[pos]'hp).toNat : Nat) : Int) == 32) = true := by rw [hb]; rfl
              have HC := scan_cut HN.out hp hb HQ.out.1
              have q1 : ((pos : Int) ≤ (q.size : Int)) := by omega
              have q2 : ((0 : Int) ≤ (pos : Int)) := by omega
              obtain ⟨x0, c0⟩ : ∃ x, (w1.iter q (pos + 1)).cell? ⟨B, n, none⟩ = some x := ⟨_, (cell_of_row _ _ _ _ _ _ (kI (pos + 1))).trans (Array.getElem?_eq_getElem (by rw [HH.out.2.2.2.1]; exact hlt))⟩
              have f0 : (w1.iter q (pos + 1)).frozen? ⟨B, n, none⟩ = false := by simp [World.frozen?, kI (pos + 1)]
              have HX : Hid (((w1.iter q (pos + 1)).setCell ⟨B, n, none⟩ (.string (q.extract 0 pos))).heap[B]? = some (.cells (C.setIfInBounds n (.string (q.extract 0 pos))) 88 (0, 0)) ∧ ((w1.iter q (pos + 1)).setCell ⟨B, n, none⟩ (.string (q.extract 0 pos))).heap[w.heap.size]? = some (.cells #[.string ⟨#[]⟩, .string ⟨#[]⟩, .string ⟨#[]⟩] 88 (0, 0)) ∧ Below w.heap.size w ((w1.iter q (pos + 1)).setCell ⟨B, n, none⟩ (.string (q.extract 0 pos))) ∧ Sofar ws (n + 1) (C.setIfInBounds n (.string (q.extract 0 pos)))) := by
                refine ⟨row_put (kI (pos + 1)) n _, ?_, ?_, sofar_next HH.out.2.2.2 hlt (wd_here HQ.out.2 HC.1)⟩
                · simp only [World.setCell]
                  rw [Array.getElem?_modify, if_neg (by show ¬ B = _; omega)]
                  exact (heap_alloc_old _ _ (h := by omega)).trans HH.out.2.1
                · exact (HH.out.2.2.1.alloc HH.out.2.2.1.size _).setCell (p := ⟨B, n, none⟩) (by show w.heap.size ≤ B; omega) _
              have HY : Hid (lwords (q.extract pos q.size).data.toList = ws.drop (n + 1)) := wd_next HQ.out.2 HC.2
              have hz : (q.extract pos q.size).size ≤ 4194304 := by simp; omega
              clear HC hb kI
              go_upto_region 11 with fail
              go_region
              all_goals go_wp2
              all_goals go_roundg (go - 1)
              all_goals (try (case measure => omega))
              all_goals exact ⟨n + 1, _, _, by omega, by simp, rfl, hz, ⟨HX.out.1, HX.out.2.1, HX.out.2.2.1.drew, HX.out.2.2.2⟩, HY⟩
            · have e2 : ((((q[pos]'hp).toNat : Nat) : Int) == 32) = false := by
                have : (q[pos]'hp).toNat ≠ 32 := fun e => hb (UInt8.toNat.inj e)
                rw [beq_eq_false_iff_ne]
                omega
              have HN1 : Hid (NoSp q (pos + 1)) := HN.out.on hp hb
              clear hb kI
              go_wp2
              go_roundg (q.size - (pos + 1))
              case measure => omega
              case rel => exact ⟨pos + 1, rfl, rfl, rfl, HN1⟩
          · have hnx : ∀ ty, (Instr.next (.pointer (some ⟨w1.heap.size, 0, none⟩)) true ty).run Tryz.prog (w1.iter q pos) = _ := fun ty => run_next_any w1 q pos ty hp
            have hd := decode_high q pos hp (by omega)
            have e2 : (((Utf8.decode q pos).1 : Int) == 32) = false := by
              rw [beq_eq_false_iff_ne]
              omega
            have HN1 : Hid (NoSp q (pos + (Utf8.decode q pos).2)) := HN.out.high hp (by omega)
            clear kI
            go_wp2
            go_roundg (q.size - (pos + (Utf8.decode q pos).2))
            case measure => omega
            case rel => exact ⟨_, rfl, rfl, rfl, HN1⟩
        · have hnx : ∀ ty, (Instr.next (.pointer (some ⟨w1.heap.size, 0, none⟩)) true ty).run Tryz.prog (w1.iter q pos) = _ := fun ty => run_next_end w1 q pos ty hp
          have HC := scan_end (r := q) (fun j hj h2 => HN.out j hj (by omega))
          obtain ⟨x0, c0⟩ : ∃ x, (w1.iter q pos).cell? ⟨B, n, none⟩ = some x := ⟨_, (cell_of_row _ _ _ _ _ _ (kI pos)).trans (Array.getElem?_eq_getElem (by rw [HH.out.2.2.2.1]; exact hlt))⟩
          have f0 : (w1.iter q pos).frozen? ⟨B, n, none⟩ = false := by simp [World.frozen?, kI pos]
          have HX : Hid (((w1.iter q pos).setCell ⟨B, n, none⟩ (.string q)).heap[B]? = some (.cells (C.setIfInBounds n (.string q)) 88 (0, 0)) ∧ ((w1.iter q pos).setCell ⟨B, n, none⟩ (.string q)).heap[w.heap.size]? = some (.cells #[.string ⟨#[]⟩, .string ⟨#[]⟩, .string ⟨#[]⟩] 88 (0, 0)) ∧ Below w.heap.size w ((w1.iter q pos).setCell ⟨B, n, none⟩ (.string q)) ∧ Sofar ws (n + 1) (C.setIfInBounds n (.string q))) := by
            refine ⟨row_put (kI pos) n _, ?_, ?_, sofar_next HH.out.2.2.2 hlt (wd_here HQ.out.2 HC.1)⟩
            · simp only [World.setCell]
              rw [Array.getElem?_modify, if_neg (by show ¬ B = _; omega)]
              exact (heap_alloc_old _ _ (h := by omega)).trans HH.out.2.1
            · exact (HH.out.2.2.1.alloc HH.out.2.2.1.size _).setCell (p := ⟨B, n, none⟩) (by show w.heap.size ≤ B; omega) _
          have HY : Hid (lwords (⟨#[]⟩ : ByteArray).data.toList = ws.drop (n + 1)) := wd_next HQ.out.2 HC.2
          have hz : (⟨#[]⟩ : ByteArray).size ≤ 4194304 := by show 0 ≤ 4194304; omega
          clear HC kI
          go_wp2
          go_roundg (go - 1)
          case measure => omega
          case rel => exact ⟨n + 1, _, _, by omega, by simp, rfl, hz, HX, HY⟩
    · have i1 : ¬ ((n : Int) < 3) := by omega
      have hn3 : n = 3 := by omega
      have hC := sofar_all (by have := HH.out.2.2.2; rwa [hn3] at this)
      have HLD : Hid ((loadVar 88 ⟨B, 0, none⟩).run Tryz.prog wr = .ok (.agg #[.string (wdAt ws 0), .string (wdAt ws 1), .string (wdAt ws 2)]) wr) := by
        have h1 := HH.out.1
        rw [hC] at h1
        exact load_all h1 _ _ Tryz.underlying88 rfl (by kernel_rfl)
      have HS2 : Hid ((storeVar 88 ⟨w.heap.size, 0, none⟩ (.agg #[.string (wdAt ws 0), .string (wdAt ws 1), .string (wdAt ws 2)])).run Tryz.prog wr = .ok () (wr.setRow w.heap.size #[.string (wdAt ws 0), .string (wdAt ws 1), .string (wdAt ws 2)])) := store_all HH.out.2.1 88 _ rfl (by kernel_rfl) (all_one [.string (wdAt ws 0), .string (wdAt ws 1), .string (wdAt ws 2)] (by intro d hd; simp at hd; rcases hd with rfl | rfl | rfl <;> rfl))
      have HRr : Hid ((wr.setRow w.heap.size #[.string (wdAt ws 0), .string (wdAt ws 1), .string (wdAt ws 2)]).heap[w.heap.size]? = some (.cells #[.string (wdAt ws 0), .string (wdAt ws 1), .string (wdAt ws 2)] 88 (0, 0))) := row_set HH.out.2.1 _
      have HBf : Hid (Below w.heap.size w (wr.setRow w.heap.size #[.string (wdAt ws 0), .string (wdAt ws 1), .string (wdAt ws 2)])) := below_setRow HH.out.2.2.1 (Nat.le_refl _) _
      obtain ⟨y0, Hy0⟩ : ∃ y, Hid (y = wdAt ws 0) := ⟨_, rfl⟩
      rw [← Hy0.out] at HLD HS2 HRr HBf
      obtain ⟨y1, Hy1⟩ : ∃ y, Hid (y = wdAt ws 1) := ⟨_, rfl⟩
      rw [← Hy1.out] at HLD HS2 HRr HBf
      obtain ⟨y2, Hy2⟩ : ∃ y, Hid (y = wdAt ws 2) := ⟨_, rfl⟩
      rw [← Hy2.out] at HLD HS2 HRr HBf
      clear hC hn3
      go_wp2_with (first | (refine wpL_load rfl 88 _ rfl _ _ rfl _ HLD.out ?_) | (refine wpL_store rfl 88 _ _ rfl _ _ rfl _ rfl _ HS2.out ?_) | (refine ret_row rfl rfl HRr.out Tryz.underlying88 rfl (by kernel_rfl) rfl ?_) | fail)
      exact ⟨by rw [Hy0.out, Hy1.out, Hy2.out], HBf.out⟩
end Go.Proofs.YtndfmgbdfcggmaaGreatDoor
