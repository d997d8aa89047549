/- HoldPlan of the specification. Made by tools/gen19_hwb.py. -/
import Derived.Test.YtfhdpafaamkipaaHwa
namespace Go.Proofs.Ytfhdpafaamkipaa
open Go.RowKit
set_option linter.unusedVariables false
set_option linter.unusedSimpArgs false

/-- What HoldPlan answers. -/
def planT (r : RomT) (d : List Nat) : List WrT × Bool := if d.length ≤ 20100 then (planL r d, true) else ([], false)
def PlanR (r : RomT) (d : List Nat) (w : World) (e : Ending) (w' : World) : Prop :=
  ∃ (a : Option Addr) (n c : Nat), e = .returned (.tuple #[.slice a n c, .bool (planT r d).2]) ∧ n = (planT r d).1.length ∧ OwW w' w.heap.size (.slice a n c) (planT r d).1 ∧ Below w.heap.size w w'
theorem planR_ok {r : RomT} {d : List Nat} {w w' : World} {a : Option Addr} {n c : Nat} (hd : d.length ≤ 20100) (h : OwW w' w.heap.size (.slice a n c) (planL r d)) (b : Below w.heap.size w w') : PlanR r d w (.returned (.tuple #[.slice a n c, .bool true])) w' := by
  have e : planT r d = (planL r d, true) := by unfold planT; rw [if_pos hd]
  exact ⟨a, n, c, by rw [e], by rw [e]; exact oww_len h, by rw [e]; exact h, b⟩
theorem planR_no {r : RomT} {d : List Nat} {w w' : World} (hd : ¬ d.length ≤ 20100) (b : Below w.heap.size w w') : PlanR r d w (.returned (.tuple #[.slice none 0 0, .bool false])) w' := by
  have e : planT r d = ([], false) := by unfold planT; rw [if_neg hd]
  exact ⟨none, 0, 0, by rw [e], by rw [e]; rfl, by rw [e]; exact World.ownsRow_nil _ _ _ _, b⟩
theorem planL_0 {r : RomT} (d : List Nat) (h : snowT r = 0) : planL r d = ([⟨1, 1, 0⟩, ⟨3, 1, 0⟩] ++ d.map (fun x => (⟨4, 1, x⟩ : WrT)) ++ [⟨2, 1, (r.a.turn + 1) % 3⟩, ⟨1, 1, 165⟩]) ++ [⟨1, 0, 0⟩] := by
  unfold planL toB tnT coreP
  rw [h]
  rfl
theorem planL_1 {r : RomT} (d : List Nat) (h : snowT r = 1) : planL r d = ([⟨1, 0, 0⟩, ⟨3, 0, 0⟩] ++ d.map (fun x => (⟨4, 0, x⟩ : WrT)) ++ [⟨2, 0, (r.b.turn + 1) % 3⟩, ⟨1, 0, 165⟩]) ++ [⟨1, 1, 0⟩] := by
  unfold planL toB tnT coreP
  rw [h]
  rfl
theorem planL_n {r : RomT} (d : List Nat) (h : snowT r = -1) : planL r d = ([⟨1, 0, 0⟩, ⟨3, 0, 0⟩] ++ d.map (fun x => (⟨4, 0, x⟩ : WrT)) ++ [⟨2, 0, 0⟩, ⟨1, 0, 165⟩]) := by
  unfold planL toB tnT coreP
  rw [h]
  simp [sl]
set_option maxRecDepth 10000 in
set_option maxHeartbeats 8000000 in
theorem plan_s (r : RomT) (xa xb : Option Addr) (na ca nb cb : Nat) (a : Option Addr) (n c : Nat) (d : List Nat) (w : World) (h : RomOk r na nb) (hd : d.length = n) (hn : n ≤ 1048576) (hx : Bt w a n (fL d)) :
    Calls Try.prog 15 #[romV r xa xb na ca nb cb, .slice a n c] w fun e w' => PlanR r d w e w' := by
  have HS : Hid (∀ W, Calls Try.prog 19 #[romV r xa xb na ca nb cb] W fun e w' => e = .returned (.int .i64 (snowT r)) ∧ Below W.heap.size W w') := fun W => snow_s r xa xb na ca nb cb W h
  have HD : Hid (Bt w a n (fL d) ∧ d.length = n) := ⟨hx, hd⟩
  have b0 : Below w.heap.size w (w.alloc (.cells #[.int .u8 r.a.mark, .int .u8 r.a.turn, .slice xa na ca, .int .u8 r.b.mark, .int .u8 r.b.turn, .slice xb nb cb] 26)) := (Below.refl _ _).alloc (Nat.le_refl _) _
  have k0 := heap_alloc_last w (.cells #[.int .u8 r.a.mark, .int .u8 r.a.turn, .slice xa na ca, .int .u8 r.b.mark, .int .u8 r.b.turn, .slice xb nb cb] 26)
  unfold romV at HS ⊢
  clear hx h
  by_cases hbig : n ≤ 20100
  case neg =>
    have HF : Hid (PlanR r d w (.returned (.tuple #[.slice none 0 0, .bool false])) (w.alloc (.cells #[.int .u8 r.a.mark, .int .u8 r.a.turn, .slice xa na ca, .int .u8 r.b.mark, .int .u8 r.b.turn, .slice xb nb cb] 26))) := planR_no (by omega) b0
    have i1 : (20100 : Int) < (n : Int) := by omega
    clear hd hn hbig
    go_enter Try.func15, Try.ntmps15
    go_wp2
    go_ret2
    exact HF.out
  have i1 : ¬ (20100 : Int) < (n : Int) := by omega
  clear hd hn
  go_enter Try.func15, Try.ntmps15
  go_wp2_with fail
  generalize (w.alloc (.cells #[.int .u8 r.a.mark, .int .u8 r.a.turn, .slice xa na ca, .int .u8 r.b.mark, .int .u8 r.b.turn, .slice xb nb cb] 26)) = W0 at b0 k0 ⊢
  refine (HS.out W0).mono ?_
  rintro e w1 ⟨rfl, g1⟩
  have k1 := row_later19 k0 g1
  have b1 : Hid (Below w.heap.size w w1) := b0.trans (g1.mono b0.size)
  obtain ⟨p0, p1, p2, p3, p4, p5, pf⟩ := row_cells6 k1
  clear g1 k0 k1 b0 HS
  rcases snow_cases r with ⟨s, gt⟩ | ⟨s, gt⟩ | ⟨s, gt, _⟩
  · have HPl := planL_0 d s
    have ht := good_turn gt
    obtain ⟨q, hq, hq2⟩ : ∃ q : Nat, ((r.a.turn : Int) + 1).tmod 3 = (q : Int) ∧ (r.a.turn + 1) % 3 = q := ⟨(r.a.turn + 1) % 3, by rw [Int.tmod_eq_emod_of_nonneg (by omega)]; omega, rfl⟩
    rw [hq2] at HPl
    rw [s]
    clear s gt hq2
    have HPl : Hid _ := HPl
    go_wp2
    clear p0 p1 p2 p3 p4 p5 pf hq ht
    have HP : Hid (planL r d = ([⟨1, 1, 0⟩, ⟨3, 1, 0⟩] ++ d.map (fun x => (⟨4, 1, x⟩ : WrT)) ++ [⟨2, 1, q⟩, ⟨1, 1, 165⟩]) ++ [⟨1, 0, 0⟩]) := HPl
    have own0 : OwW (w1.alloc (.cells #[.int .i64 1, .int .i64 1, .int .u8 0, .int .i64 3, .int .i64 1, .int .u8 0] 42)) w.heap.size (.slice (some ⟨w1.heap.size, 0, none⟩) 2 2) [⟨1, 1, 0⟩, ⟨3, 1, 0⟩] := own_madeW w1 w.heap.size b1.out.size [⟨1, 1, 0⟩, ⟨3, 1, 0⟩] (by simp)
    have B0 : Hid (Below w.heap.size w (w1.alloc (.cells #[.int .i64 1, .int .i64 1, .int .u8 0, .int .i64 3, .int .i64 1, .int .u8 0] 42))) := b1.out.alloc b1.out.size _
    have own0 : Hid (OwW (w1.alloc (.cells #[.int .i64 1, .int .i64 1, .int .u8 0, .int .i64 3, .int .i64 1, .int .u8 0] 42)) w.heap.size (.slice (some ⟨w1.heap.size, 0, none⟩) 2 2) [⟨1, 1, 0⟩, ⟨3, 1, 0⟩]) := own0
    clear HPl b1
    go_loopw [9, 10] (fun out i wr => ∃ k g cap : Nat, k ≤ n ∧ i = .int .i64 k ∧ out = .slice (some ⟨g, 0, none⟩) (2 + k) cap ∧ Hid (OwW wr w.heap.size (.slice (some ⟨g, 0, none⟩) (2 + k) cap) ([⟨1, 1, 0⟩, ⟨3, 1, 0⟩] ++ (d.take k).map (fun x => (⟨4, 1, x⟩ : WrT)))) ∧ Hid (Below w.heap.size w wr)) (fun _ i _ => n - (intOf i).toNat)
    case atStart => exact ⟨0, _, 2, Nat.zero_le _, rfl, rfl, (by have h := own0.out; simpa [Hid] using h : Hid (OwW _ w.heap.size (.slice (some ⟨w1.heap.size, 0, none⟩) (2 + 0) 2) ([⟨1, 1, 0⟩, ⟨3, 1, 0⟩] ++ (d.take 0).map (fun x => (⟨4, 1, x⟩ : WrT))))), B0⟩
    case round =>
      clear own0 B0
      obtain ⟨k, g, cap, hk, rfl, rfl, HO, HB⟩ := hrel
      by_cases hlt : k < n
      · obtain ⟨bg, bo, rfl, hbg, hcs⟩ : ∃ g o, a = some ⟨g, o, none⟩ ∧ g < w.heap.size ∧ ∀ j, j < n → w.cell? ⟨g, o + j, none⟩ = some (.int .u8 (fL d j : Nat)) := by
          rcases HD.out.1 with h | h
          · omega
          · exact h
        have cS : wr.cell? ⟨bg, bo + k, none⟩ = some (.int .u8 (fL d k : Nat)) := (HB.out.cell (p := ⟨bg, bo + k, none⟩) hbg).trans (hcs k hlt)
        have hx : d.take (k + 1) = d.take k ++ [fL d k] := by
          have hl := HD.out.2
          rw [List.take_add_one, List.getElem?_eq_getElem (by omega)]
          unfold fL
          rw [List.getD_eq_getElem?_getD, List.getElem?_eq_getElem (by omega)]
          rfl
        obtain ⟨x, hxx⟩ : ∃ x, fL d k = x := ⟨_, rfl⟩
        rw [hxx] at cS hx
        obtain ⟨g1, cap1, W1, hr, ho, hO⟩ := appWm wr w.heap.size g (2 + k) cap _ [⟨4, 1, x⟩] HO.out (by simp) (by simp; omega) HB.out.size
        have HR : Hid (∀ ty, (Builtin.append_ #[31, 31] ty #[.slice (some ⟨g, 0, none⟩) (2 + k) cap, .slice (some ⟨wr.heap.size, 0, none⟩) 1 1]).run Try.prog (wr.alloc (.cells #[.int .i64 4, .int .i64 1, .int .u8 (x : Nat)] 42)) = .ok (.slice (some ⟨g1, 0, none⟩) (2 + k + 1) cap1) W1) := hr
        have HO1 : Hid (OwW W1 w.heap.size (.slice (some ⟨g1, 0, none⟩) (2 + (k + 1)) cap1) ([⟨1, 1, 0⟩, ⟨3, 1, 0⟩] ++ (d.take (k + 1)).map (fun x => (⟨4, 1, x⟩ : WrT)))) := by
          rw [hx, List.map_append, ← List.append_assoc]
          exact ho
        have HB1 : Hid (Below w.heap.size w W1) := hO.below HB.out HB.out.size (fun _ e => e)
        have ik : (k : Int) < (n : Int) := by omega
        clear hr ho hO hx hxx hcs HO HB
        go_wp2_with (at_builtin; refine wpList_appB rfl _ _ 31 rfl _ _ rfl rfl _ _ HR.out ?_)
        go_roundw
        case rel => exact ⟨k + 1, g1, cap1, by omega, by go_num, rfl, HO1, HB1⟩
        case measure => simp [intOf]; omega
      · have hkn : k = n := by omega
        subst hkn
        have HO0 := HO.out
        rw [List.take_of_length_le (by have := HD.out.2; omega)] at HO0
        obtain ⟨g1, cap1, W1, hr, ho, hO⟩ := appWm wr w.heap.size g (2 + k) cap _ [⟨2, 1, q⟩, ⟨1, 1, 165⟩] HO0 (by simp) (by simp; omega) HB.out.size
        have HR : Hid (∀ ty, (Builtin.append_ #[31, 31] ty #[.slice (some ⟨g, 0, none⟩) (2 + k) cap, .slice (some ⟨wr.heap.size, 0, none⟩) 2 2]).run Try.prog (wr.alloc (.cells #[.int .i64 2, .int .i64 1, .int .u8 (q : Nat), .int .i64 1, .int .i64 1, .int .u8 165] 42)) = .ok (.slice (some ⟨g1, 0, none⟩) (2 + k + 2) cap1) W1) := hr
        have HB1 := hO.below HB.out HB.out.size (fun _ e => e)
        obtain ⟨g2, cap2, W2, hr2, ho2, hO2⟩ := appWm W1 w.heap.size g1 (2 + k + 2) cap1 _ [⟨1, 0, 0⟩] ho (by simp) (by simp; omega) HB1.size
        have HR2 : Hid (∀ ty, (Builtin.append_ #[31, 31] ty #[.slice (some ⟨g1, 0, none⟩) (2 + k + 2) cap1, .slice (some ⟨W1.heap.size, 0, none⟩) 1 1]).run Try.prog (W1.alloc (.cells #[.int .i64 1, .int .i64 0, .int .u8 0] 42)) = .ok (.slice (some ⟨g2, 0, none⟩) (2 + k + 2 + 1) cap2) W2) := hr2
        have HF : Hid (PlanR r d w (.returned (.tuple #[.slice (some ⟨g2, 0, none⟩) (2 + k + 2 + 1) cap2, .bool true])) W2) := planR_ok (by have := HD.out.2; omega) (by rw [HP.out]; exact ho2) (hO2.below HB1 HB1.size (fun _ e => e))
        have ik : ¬ (k : Int) < (k : Int) := by omega
        clear hr ho hO HB1 HO0 HO HB hr2 ho2 hO2
        go_upto_region 17 with (at_builtin; refine wpList_appB rfl _ _ 31 rfl _ _ rfl rfl _ _ HR.out ?_)
        go_wp2_with (at_builtin; refine wpList_appB rfl _ _ 31 rfl _ _ rfl rfl _ _ HR2.out ?_)
        go_ret2
        exact HF.out
  · have HPl := planL_1 d s
    have ht := good_turn gt
    obtain ⟨q, hq, hq2⟩ : ∃ q : Nat, ((r.b.turn : Int) + 1).tmod 3 = (q : Int) ∧ (r.b.turn + 1) % 3 = q := ⟨(r.b.turn + 1) % 3, by rw [Int.tmod_eq_emod_of_nonneg (by omega)]; omega, rfl⟩
    rw [hq2] at HPl
    rw [s]
    clear s gt hq2
    have HPl : Hid _ := HPl
    go_wp2
    clear p0 p1 p2 p3 p4 p5 pf hq ht
    have HP : Hid (planL r d = ([⟨1, 0, 0⟩, ⟨3, 0, 0⟩] ++ d.map (fun x => (⟨4, 0, x⟩ : WrT)) ++ [⟨2, 0, q⟩, ⟨1, 0, 165⟩]) ++ [⟨1, 1, 0⟩]) := HPl
    have own0 : OwW (w1.alloc (.cells #[.int .i64 1, .int .i64 0, .int .u8 0, .int .i64 3, .int .i64 0, .int .u8 0] 42)) w.heap.size (.slice (some ⟨w1.heap.size, 0, none⟩) 2 2) [⟨1, 0, 0⟩, ⟨3, 0, 0⟩] := own_madeW w1 w.heap.size b1.out.size [⟨1, 0, 0⟩, ⟨3, 0, 0⟩] (by simp)
    have B0 : Hid (Below w.heap.size w (w1.alloc (.cells #[.int .i64 1, .int .i64 0, .int .u8 0, .int .i64 3, .int .i64 0, .int .u8 0] 42))) := b1.out.alloc b1.out.size _
    have own0 : Hid (OwW (w1.alloc (.cells #[.int .i64 1, .int .i64 0, .int .u8 0, .int .i64 3, .int .i64 0, .int .u8 0] 42)) w.heap.size (.slice (some ⟨w1.heap.size, 0, none⟩) 2 2) [⟨1, 0, 0⟩, ⟨3, 0, 0⟩]) := own0
    clear HPl b1
    go_loopw [9, 10] (fun out i wr => ∃ k g cap : Nat, k ≤ n ∧ i = .int .i64 k ∧ out = .slice (some ⟨g, 0, none⟩) (2 + k) cap ∧ Hid (OwW wr w.heap.size (.slice (some ⟨g, 0, none⟩) (2 + k) cap) ([⟨1, 0, 0⟩, ⟨3, 0, 0⟩] ++ (d.take k).map (fun x => (⟨4, 0, x⟩ : WrT)))) ∧ Hid (Below w.heap.size w wr)) (fun _ i _ => n - (intOf i).toNat)
    case atStart => exact ⟨0, _, 2, Nat.zero_le _, rfl, rfl, (by have h := own0.out; simpa [Hid] using h : Hid (OwW _ w.heap.size (.slice (some ⟨w1.heap.size, 0, none⟩) (2 + 0) 2) ([⟨1, 0, 0⟩, ⟨3, 0, 0⟩] ++ (d.take 0).map (fun x => (⟨4, 0, x⟩ : WrT))))), B0⟩
    case round =>
      clear own0 B0
      obtain ⟨k, g, cap, hk, rfl, rfl, HO, HB⟩ := hrel
      by_cases hlt : k < n
      · obtain ⟨bg, bo, rfl, hbg, hcs⟩ : ∃ g o, a = some ⟨g, o, none⟩ ∧ g < w.heap.size ∧ ∀ j, j < n → w.cell? ⟨g, o + j, none⟩ = some (.int .u8 (fL d j : Nat)) := by
          rcases HD.out.1 with h | h
          · omega
          · exact h
        have cS : wr.cell? ⟨bg, bo + k, none⟩ = some (.int .u8 (fL d k : Nat)) := (HB.out.cell (p := ⟨bg, bo + k, none⟩) hbg).trans (hcs k hlt)
        have hx : d.take (k + 1) = d.take k ++ [fL d k] := by
          have hl := HD.out.2
          rw [List.take_add_one, List.getElem?_eq_getElem (by omega)]
          unfold fL
          rw [List.getD_eq_getElem?_getD, List.getElem?_eq_getElem (by omega)]
          rfl
        obtain ⟨x, hxx⟩ : ∃ x, fL d k = x := ⟨_, rfl⟩
        rw [hxx] at cS hx
        obtain ⟨g1, cap1, W1, hr, ho, hO⟩ := appWm wr w.heap.size g (2 + k) cap _ [⟨4, 0, x⟩] HO.out (by simp) (by simp; omega) HB.out.size
        have HR : Hid (∀ ty, (Builtin.append_ #[31, 31] ty #[.slice (some ⟨g, 0, none⟩) (2 + k) cap, .slice (some ⟨wr.heap.size, 0, none⟩) 1 1]).run Try.prog (wr.alloc (.cells #[.int .i64 4, .int .i64 0, .int .u8 (x : Nat)] 42)) = .ok (.slice (some ⟨g1, 0, none⟩) (2 + k + 1) cap1) W1) := hr
        have HO1 : Hid (OwW W1 w.heap.size (.slice (some ⟨g1, 0, none⟩) (2 + (k + 1)) cap1) ([⟨1, 0, 0⟩, ⟨3, 0, 0⟩] ++ (d.take (k + 1)).map (fun x => (⟨4, 0, x⟩ : WrT)))) := by
          rw [hx, List.map_append, ← List.append_assoc]
          exact ho
        have HB1 : Hid (Below w.heap.size w W1) := hO.below HB.out HB.out.size (fun _ e => e)
        have ik : (k : Int) < (n : Int) := by omega
        clear hr ho hO hx hxx hcs HO HB
        go_wp2_with (at_builtin; refine wpList_appB rfl _ _ 31 rfl _ _ rfl rfl _ _ HR.out ?_)
        go_roundw
        case rel => exact ⟨k + 1, g1, cap1, by omega, by go_num, rfl, HO1, HB1⟩
        case measure => simp [intOf]; omega
      · have hkn : k = n := by omega
        subst hkn
        have HO0 := HO.out
        rw [List.take_of_length_le (by have := HD.out.2; omega)] at HO0
        obtain ⟨g1, cap1, W1, hr, ho, hO⟩ := appWm wr w.heap.size g (2 + k) cap _ [⟨2, 0, q⟩, ⟨1, 0, 165⟩] HO0 (by simp) (by simp; omega) HB.out.size
        have HR : Hid (∀ ty, (Builtin.append_ #[31, 31] ty #[.slice (some ⟨g, 0, none⟩) (2 + k) cap, .slice (some ⟨wr.heap.size, 0, none⟩) 2 2]).run Try.prog (wr.alloc (.cells #[.int .i64 2, .int .i64 0, .int .u8 (q : Nat), .int .i64 1, .int .i64 0, .int .u8 165] 42)) = .ok (.slice (some ⟨g1, 0, none⟩) (2 + k + 2) cap1) W1) := hr
        have HB1 := hO.below HB.out HB.out.size (fun _ e => e)
        obtain ⟨g2, cap2, W2, hr2, ho2, hO2⟩ := appWm W1 w.heap.size g1 (2 + k + 2) cap1 _ [⟨1, 1, 0⟩] ho (by simp) (by simp; omega) HB1.size
        have HR2 : Hid (∀ ty, (Builtin.append_ #[31, 31] ty #[.slice (some ⟨g1, 0, none⟩) (2 + k + 2) cap1, .slice (some ⟨W1.heap.size, 0, none⟩) 1 1]).run Try.prog (W1.alloc (.cells #[.int .i64 1, .int .i64 1, .int .u8 0] 42)) = .ok (.slice (some ⟨g2, 0, none⟩) (2 + k + 2 + 1) cap2) W2) := hr2
        have HF : Hid (PlanR r d w (.returned (.tuple #[.slice (some ⟨g2, 0, none⟩) (2 + k + 2 + 1) cap2, .bool true])) W2) := planR_ok (by have := HD.out.2; omega) (by rw [HP.out]; exact ho2) (hO2.below HB1 HB1.size (fun _ e => e))
        have ik : ¬ (k : Int) < (k : Int) := by omega
        clear hr ho hO HB1 HO0 HO HB hr2 ho2 hO2
        go_upto_region 17 with (at_builtin; refine wpList_appB rfl _ _ 31 rfl _ _ rfl rfl _ _ HR.out ?_)
        go_wp2_with (at_builtin; refine wpList_appB rfl _ _ 31 rfl _ _ rfl rfl _ _ HR2.out ?_)
        go_ret2
        exact HF.out
  · have HPl := planL_n d s
    rw [s]
    clear s gt
    have HPl : Hid _ := HPl
    go_wp2
    clear p0 p1 p2 p3 p4 p5 pf
    have HP : Hid (planL r d = ([⟨1, 0, 0⟩, ⟨3, 0, 0⟩] ++ d.map (fun x => (⟨4, 0, x⟩ : WrT)) ++ [⟨2, 0, 0⟩, ⟨1, 0, 165⟩])) := HPl
    have own0 : OwW (w1.alloc (.cells #[.int .i64 1, .int .i64 0, .int .u8 0, .int .i64 3, .int .i64 0, .int .u8 0] 42)) w.heap.size (.slice (some ⟨w1.heap.size, 0, none⟩) 2 2) [⟨1, 0, 0⟩, ⟨3, 0, 0⟩] := own_madeW w1 w.heap.size b1.out.size [⟨1, 0, 0⟩, ⟨3, 0, 0⟩] (by simp)
    have B0 : Hid (Below w.heap.size w (w1.alloc (.cells #[.int .i64 1, .int .i64 0, .int .u8 0, .int .i64 3, .int .i64 0, .int .u8 0] 42))) := b1.out.alloc b1.out.size _
    have own0 : Hid (OwW (w1.alloc (.cells #[.int .i64 1, .int .i64 0, .int .u8 0, .int .i64 3, .int .i64 0, .int .u8 0] 42)) w.heap.size (.slice (some ⟨w1.heap.size, 0, none⟩) 2 2) [⟨1, 0, 0⟩, ⟨3, 0, 0⟩]) := own0
    clear HPl b1
    go_loopw [9, 10] (fun out i wr => ∃ k g cap : Nat, k ≤ n ∧ i = .int .i64 k ∧ out = .slice (some ⟨g, 0, none⟩) (2 + k) cap ∧ Hid (OwW wr w.heap.size (.slice (some ⟨g, 0, none⟩) (2 + k) cap) ([⟨1, 0, 0⟩, ⟨3, 0, 0⟩] ++ (d.take k).map (fun x => (⟨4, 0, x⟩ : WrT)))) ∧ Hid (Below w.heap.size w wr)) (fun _ i _ => n - (intOf i).toNat)
    case atStart => exact ⟨0, _, 2, Nat.zero_le _, rfl, rfl, (by have h := own0.out; simpa [Hid] using h : Hid (OwW _ w.heap.size (.slice (some ⟨w1.heap.size, 0, none⟩) (2 + 0) 2) ([⟨1, 0, 0⟩, ⟨3, 0, 0⟩] ++ (d.take 0).map (fun x => (⟨4, 0, x⟩ : WrT))))), B0⟩
    case round =>
      clear own0 B0
      obtain ⟨k, g, cap, hk, rfl, rfl, HO, HB⟩ := hrel
      by_cases hlt : k < n
      · obtain ⟨bg, bo, rfl, hbg, hcs⟩ : ∃ g o, a = some ⟨g, o, none⟩ ∧ g < w.heap.size ∧ ∀ j, j < n → w.cell? ⟨g, o + j, none⟩ = some (.int .u8 (fL d j : Nat)) := by
          rcases HD.out.1 with h | h
          · omega
          · exact h
        have cS : wr.cell? ⟨bg, bo + k, none⟩ = some (.int .u8 (fL d k : Nat)) := (HB.out.cell (p := ⟨bg, bo + k, none⟩) hbg).trans (hcs k hlt)
        have hx : d.take (k + 1) = d.take k ++ [fL d k] := by
          have hl := HD.out.2
          rw [List.take_add_one, List.getElem?_eq_getElem (by omega)]
          unfold fL
          rw [List.getD_eq_getElem?_getD, List.getElem?_eq_getElem (by omega)]
          rfl
        obtain ⟨x, hxx⟩ : ∃ x, fL d k = x := ⟨_, rfl⟩
        rw [hxx] at cS hx
        obtain ⟨g1, cap1, W1, hr, ho, hO⟩ := appWm wr w.heap.size g (2 + k) cap _ [⟨4, 0, x⟩] HO.out (by simp) (by simp; omega) HB.out.size
        have HR : Hid (∀ ty, (Builtin.append_ #[31, 31] ty #[.slice (some ⟨g, 0, none⟩) (2 + k) cap, .slice (some ⟨wr.heap.size, 0, none⟩) 1 1]).run Try.prog (wr.alloc (.cells #[.int .i64 4, .int .i64 0, .int .u8 (x : Nat)] 42)) = .ok (.slice (some ⟨g1, 0, none⟩) (2 + k + 1) cap1) W1) := hr
        have HO1 : Hid (OwW W1 w.heap.size (.slice (some ⟨g1, 0, none⟩) (2 + (k + 1)) cap1) ([⟨1, 0, 0⟩, ⟨3, 0, 0⟩] ++ (d.take (k + 1)).map (fun x => (⟨4, 0, x⟩ : WrT)))) := by
          rw [hx, List.map_append, ← List.append_assoc]
          exact ho
        have HB1 : Hid (Below w.heap.size w W1) := hO.below HB.out HB.out.size (fun _ e => e)
        have ik : (k : Int) < (n : Int) := by omega
        clear hr ho hO hx hxx hcs HO HB
        go_wp2_with (at_builtin; refine wpList_appB rfl _ _ 31 rfl _ _ rfl rfl _ _ HR.out ?_)
        go_roundw
        case rel => exact ⟨k + 1, g1, cap1, by omega, by go_num, rfl, HO1, HB1⟩
        case measure => simp [intOf]; omega
      · have hkn : k = n := by omega
        subst hkn
        have HO0 := HO.out
        rw [List.take_of_length_le (by have := HD.out.2; omega)] at HO0
        obtain ⟨g1, cap1, W1, hr, ho, hO⟩ := appWm wr w.heap.size g (2 + k) cap _ [⟨2, 0, 0⟩, ⟨1, 0, 165⟩] HO0 (by simp) (by simp; omega) HB.out.size
        have HR : Hid (∀ ty, (Builtin.append_ #[31, 31] ty #[.slice (some ⟨g, 0, none⟩) (2 + k) cap, .slice (some ⟨wr.heap.size, 0, none⟩) 2 2]).run Try.prog (wr.alloc (.cells #[.int .i64 2, .int .i64 0, .int .u8 0, .int .i64 1, .int .i64 0, .int .u8 165] 42)) = .ok (.slice (some ⟨g1, 0, none⟩) (2 + k + 2) cap1) W1) := hr
        have HB1 := hO.below HB.out HB.out.size (fun _ e => e)
        have HF : Hid (PlanR r d w (.returned (.tuple #[.slice (some ⟨g1, 0, none⟩) (2 + k + 2) cap1, .bool true])) W1) := planR_ok (by have := HD.out.2; omega) (by rw [HP.out]; exact ho) HB1
        have ik : ¬ (k : Int) < (k : Int) := by omega
        clear hr ho hO HB1 HO0 HO HB
        go_wp2_with (at_builtin; refine wpList_appB rfl _ _ 31 rfl _ _ rfl rfl _ _ HR.out ?_)
        go_ret2
        exact HF.out
end Go.Proofs.Ytfhdpafaamkipaa
