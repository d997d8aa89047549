/- HoldPlan of the program. Made by tools/gen19_hwb.py. -/
import Derived.Test.YtfhdpafaamkipaaHwb
namespace Go.Proofs.Ytfhdpafaamkipaa
open Go.RowKit
set_option linter.unusedVariables false
set_option linter.unusedSimpArgs false

set_option maxRecDepth 10000 in
set_option maxHeartbeats 8000000 in
theorem plan_i (r : RomT) (xa xb : Option Addr) (na ca nb cb : Nat) (a : Option Addr) (n c : Nat) (d : List Nat) (w : World) (h : RomOk r na nb) (hd : d.length = n) (hn : n ≤ 1048576) (hx : Bt w a n (fL d)) :
    Calls Try.prog 14 #[romV r xa xb na ca nb cb, .slice a n c] w fun e w' => PlanR r d w e w' := by
  have HO : Hid (∀ W, Calls Try.prog 44 #[romV r xa xb na ca nb cb] W fun e w' => e = .returned (.pointer (some ⟨W.heap.size + 1, 0, none⟩)) ∧ StA w' (W.heap.size + 1) 0 r (.slice xa na ca) (.slice xb nb cb) ∧ Below W.heap.size W w' ∧ w'.heap.size = W.heap.size + 2) := fun W => open_i r xa xb na ca nb cb W
  have HN : Hid (∀ W g, StA W g 0 r (.slice xa na ca) (.slice xb nb cb) → Calls Try.prog 45 #[.pointer (some ⟨g, 0, none⟩)] W fun e w' => e = .returned (.int .i64 (snowT r)) ∧ ∃ m, w' = W.drewN m) := fun W g hs => now_i g r xa xb na ca nb cb W hs h
  have HH : Hid (∀ W g k, g < W.heap.size → Calls Try.prog 46 #[.pointer (some ⟨g, 0, none⟩), .int .i64 k] W fun e w' => e = .returned (.pointer (hfP g k)) ∧ w' = W) := fun W g k hg => half_i g k W hg
  have HD : Hid (Bt w a n (fL d) ∧ d.length = n) := ⟨hx, hd⟩
  have b0 : Below w.heap.size w (w.alloc (.cells #[.int .u8 r.a.mark, .int .u8 r.a.turn, .slice xa na ca, .int .u8 r.b.mark, .int .u8 r.b.turn, .slice xb nb cb] 26)) := (Below.refl _ _).alloc (Nat.le_refl _) _
  unfold romV at HO ⊢
  clear hx h
  by_cases hbig : n ≤ 20100
  case neg =>
    have HF : Hid (PlanR r d w (.returned (.tuple #[.slice none 0 0, .bool false])) (w.alloc (.cells #[.int .u8 r.a.mark, .int .u8 r.a.turn, .slice xa na ca, .int .u8 r.b.mark, .int .u8 r.b.turn, .slice xb nb cb] 26))) := planR_no (by omega) b0
    have i1 : (20100 : Int) < (n : Int) := by omega
    clear hd hn hbig HO HN HH
    go_enter Try.func14, Try.ntmps14
    go_wp2
    go_ret2
    exact HF.out
  have i1 : ¬ (20100 : Int) < (n : Int) := by omega
  clear hd hn
  go_enter Try.func14, Try.ntmps14
  go_wp2_with fail
  generalize (w.alloc (.cells #[.int .u8 r.a.mark, .int .u8 r.a.turn, .slice xa na ca, .int .u8 r.b.mark, .int .u8 r.b.turn, .slice xb nb cb] 26)) = W0 at b0 ⊢
  refine (HO.out W0).mono ?_
  rintro e w0 ⟨rfl, hs, g1, hz⟩
  have b1 : Hid (Below w.heap.size w w0) := b0.trans (g1.mono b0.size)
  have hs : Hid (StA w0 (W0.heap.size + 1) 0 r (.slice xa na ca) (.slice xb nb cb)) := hs
  obtain ⟨B, hB⟩ : ∃ B, W0.heap.size + 1 = B := ⟨_, rfl⟩
  rw [hB] at hs ⊢
  clear g1 b0 hz hB
  go_wp2_with fail
  refine (HN.out w0 _ hs.out).mono ?_
  rintro e w1 ⟨rfl, m, rfl⟩
  have b1 : Hid (Below w.heap.size w (w0.drewN m)) := below_drewN b1.out _
  have hs2 := hs.out.drew m
  generalize w0.drewN m = w1 at b1 hs2 ⊢
  have hs2 : Hid (StA w1 B 0 r (.slice xa na ca) (.slice xb nb cb)) := hs2
  clear hs HN HO
  go_wp2_with fail
  refine (HH.out w1 _ _ hs2.out.lt).mono ?_
  rintro e w3 ⟨rfl, e3⟩
  subst w3
  clear HH
  rcases snow_cases r with ⟨s, gt⟩ | ⟨s, gt⟩ | ⟨s, gt, _⟩
  · have HPl := planL_0 d s
    have HX : Hid (Calls Try.prog 47 #[.pointer (some ⟨B, 2, none⟩)] w1 fun e w' => e = .returned (.int .u8 ((r.a.turn + 1) % 3 : Nat)) ∧ w' = w1) := next_i B 2 r.a.turn w1 hs2.out.c3 (good_turn gt)
    obtain ⟨q, hq2⟩ : ∃ q : Nat, (r.a.turn + 1) % 3 = q := ⟨_, rfl⟩
    rw [hq2] at HPl HX
    rw [s, show hfP B 0 = some ⟨B, 2, none⟩ from rfl]
    clear s gt hq2 hs2
    have HPl : Hid _ := HPl
    go_wp2_with fail
    refine HX.out.mono ?_
    rintro e w3 ⟨rfl, e3⟩
    subst w3
    clear HX
    go_wp2
    have HP : Hid (planL r d = ([⟨1, 1, 0⟩, ⟨3, 1, 0⟩] ++ d.map (fun x => (⟨4, 1, x⟩ : WrT)) ++ [⟨2, 1, q⟩, ⟨1, 1, 165⟩]) ++ [⟨1, 0, 0⟩]) := HPl
    have own0 : OwW (w1.alloc (.cells #[.int .i64 1, .int .i64 1, .int .u8 0, .int .i64 3, .int .i64 1, .int .u8 0] 42)) w.heap.size (.slice (some ⟨w1.heap.size, 0, none⟩) 2 2) [⟨1, 1, 0⟩, ⟨3, 1, 0⟩] := own_madeW w1 w.heap.size b1.out.size [⟨1, 1, 0⟩, ⟨3, 1, 0⟩] (by simp)
    have B0 : Hid (Below w.heap.size w (w1.alloc (.cells #[.int .i64 1, .int .i64 1, .int .u8 0, .int .i64 3, .int .i64 1, .int .u8 0] 42))) := b1.out.alloc b1.out.size _
    have own0 : Hid (OwW (w1.alloc (.cells #[.int .i64 1, .int .i64 1, .int .u8 0, .int .i64 3, .int .i64 1, .int .u8 0] 42)) w.heap.size (.slice (some ⟨w1.heap.size, 0, none⟩) 2 2) [⟨1, 1, 0⟩, ⟨3, 1, 0⟩]) := own0
    clear HPl b1
    go_loopw [11, 37] (fun out i wr => ∃ k g cap : Nat, k ≤ n ∧ i = .int .i64 k ∧ out = .slice (some ⟨g, 0, none⟩) (2 + k) cap ∧ Hid (OwW wr w.heap.size (.slice (some ⟨g, 0, none⟩) (2 + k) cap) ([⟨1, 1, 0⟩, ⟨3, 1, 0⟩] ++ (d.take k).map (fun x => (⟨4, 1, x⟩ : WrT)))) ∧ Hid (Below w.heap.size w wr)) (fun _ i _ => n - (intOf i).toNat)
    case atStart => exact ⟨0, _, 2, Nat.zero_le _, rfl, rfl, (by have h := own0.out; simpa [Hid] using h : Hid (OwW _ w.heap.size (.slice (some ⟨w1.heap.size, 0, none⟩) (2 + 0) 2) ([⟨1, 1, 0⟩, ⟨3, 1, 0⟩] ++ (d.take 0).map (fun x => (⟨4, 1, x⟩ : WrT))))), B0⟩
    case round =>
      clear own0 B0
      obtain ⟨k, g, cap, hk, rfl, rfl, HO, HB⟩ := hrel
      by_cases hlt : k < n
      · obtain ⟨bg, bo, rfl, hbg, hcs⟩ : ∃ g o, a = some ⟨g, o, none⟩ ∧ g < w.heap.size ∧ ∀ j, j < n → w.cell? ⟨g, o + j, none⟩ = some (.int .u8 (fL d j : Nat)) := by
          rcases HD.out.1 with h | h
          · omega
          · exact h
        have cS : wr.cell? ⟨bg, bo + k, none⟩ = some (.int .u8 (fL d k : Nat)) := (HB.out.cell (p := ⟨bg, bo + k, none⟩) hbg).trans (hcs k hlt)
        have hx : d.take (k + 1) = d.take k ++ [fL d k] := by
          have hl := HD.out.2
          rw [List.take_add_one, List.getElem?_eq_getElem (by omega)]
          unfold fL
          rw [List.getD_eq_getElem?_getD, List.getElem?_eq_getElem (by omega)]
          rfl
        obtain ⟨x, hxx⟩ : ∃ x, fL d k = x := ⟨_, rfl⟩
        rw [hxx] at cS hx
        obtain ⟨g1, cap1, W1, hr, ho, hO⟩ := appWm wr w.heap.size g (2 + k) cap _ [⟨4, 1, x⟩] HO.out (by simp) (by simp; omega) HB.out.size
        have HR : Hid (∀ ty, (Builtin.append_ #[31, 31] ty #[.slice (some ⟨g, 0, none⟩) (2 + k) cap, .slice (some ⟨wr.heap.size, 0, none⟩) 1 1]).run Try.prog (wr.alloc (.cells #[.int .i64 4, .int .i64 1, .int .u8 (x : Nat)] 42)) = .ok (.slice (some ⟨g1, 0, none⟩) (2 + k + 1) cap1) W1) := hr
        have HO1 : Hid (OwW W1 w.heap.size (.slice (some ⟨g1, 0, none⟩) (2 + (k + 1)) cap1) ([⟨1, 1, 0⟩, ⟨3, 1, 0⟩] ++ (d.take (k + 1)).map (fun x => (⟨4, 1, x⟩ : WrT)))) := by
          rw [hx, List.map_append, ← List.append_assoc]
          exact ho
        have HB1 : Hid (Below w.heap.size w W1) := hO.below HB.out HB.out.size (fun _ e => e)
        have ik : (k : Int) < (n : Int) := by omega
        clear hr ho hO hx hxx hcs HO HB
        go_wp2_with (at_builtin; refine wpList_appB rfl _ _ 31 rfl _ _ rfl rfl _ _ HR.out ?_)
        go_roundw
        case rel => exact ⟨k + 1, g1, cap1, by omega, by go_num, rfl, HO1, HB1⟩
        case measure => simp [intOf]; omega
      · have hkn : k = n := by omega
        subst hkn
        have HO0 := HO.out
        rw [List.take_of_length_le (by have := HD.out.2; omega)] at HO0
        obtain ⟨g1, cap1, W1, hr, ho, hO⟩ := appWm wr w.heap.size g (2 + k) cap _ [⟨2, 1, q⟩, ⟨1, 1, 165⟩] HO0 (by simp) (by simp; omega) HB.out.size
        have HR : Hid (∀ ty, (Builtin.append_ #[31, 31] ty #[.slice (some ⟨g, 0, none⟩) (2 + k) cap, .slice (some ⟨wr.heap.size, 0, none⟩) 2 2]).run Try.prog (wr.alloc (.cells #[.int .i64 2, .int .i64 1, .int .u8 (q : Nat), .int .i64 1, .int .i64 1, .int .u8 165] 42)) = .ok (.slice (some ⟨g1, 0, none⟩) (2 + k + 2) cap1) W1) := hr
        have HB1 := hO.below HB.out HB.out.size (fun _ e => e)
        obtain ⟨g2, cap2, W2, hr2, ho2, hO2⟩ := appWm W1 w.heap.size g1 (2 + k + 2) cap1 _ [⟨1, 0, 0⟩] ho (by simp) (by simp; omega) HB1.size
        have HR2 : Hid (∀ ty, (Builtin.append_ #[31, 31] ty #[.slice (some ⟨g1, 0, none⟩) (2 + k + 2) cap1, .slice (some ⟨W1.heap.size, 0, none⟩) 1 1]).run Try.prog (W1.alloc (.cells #[.int .i64 1, .int .i64 0, .int .u8 0] 42)) = .ok (.slice (some ⟨g2, 0, none⟩) (2 + k + 2 + 1) cap2) W2) := hr2
        have HF : Hid (PlanR r d w (.returned (.tuple #[.slice (some ⟨g2, 0, none⟩) (2 + k + 2 + 1) cap2, .bool true])) W2) := planR_ok (by have := HD.out.2; omega) (by rw [HP.out]; exact ho2) (hO2.below HB1 HB1.size (fun _ e => e))
        have ik : ¬ (k : Int) < (k : Int) := by omega
        clear hr ho hO HB1 HO0 HO HB hr2 ho2 hO2
        go_upto_region 15 with (at_builtin; refine wpList_appB rfl _ _ 31 rfl _ _ rfl rfl _ _ HR.out ?_)
        go_wp2_with (at_builtin; refine wpList_appB rfl _ _ 31 rfl _ _ rfl rfl _ _ HR2.out ?_)
        go_ret2
        exact HF.out
  · have HPl := planL_1 d s
    have HX : Hid (Calls Try.prog 47 #[.pointer (some ⟨B, 5, none⟩)] w1 fun e w' => e = .returned (.int .u8 ((r.b.turn + 1) % 3 : Nat)) ∧ w' = w1) := next_i B 5 r.b.turn w1 hs2.out.c6 (good_turn gt)
    obtain ⟨q, hq2⟩ : ∃ q : Nat, (r.b.turn + 1) % 3 = q := ⟨_, rfl⟩
    rw [hq2] at HPl HX
    rw [s, show hfP B 1 = some ⟨B, 5, none⟩ from rfl]
    clear s gt hq2 hs2
    have HPl : Hid _ := HPl
    go_wp2_with fail
    refine HX.out.mono ?_
    rintro e w3 ⟨rfl, e3⟩
    subst w3
    clear HX
    go_wp2
    have HP : Hid (planL r d = ([⟨1, 0, 0⟩, ⟨3, 0, 0⟩] ++ d.map (fun x => (⟨4, 0, x⟩ : WrT)) ++ [⟨2, 0, q⟩, ⟨1, 0, 165⟩]) ++ [⟨1, 1, 0⟩]) := HPl
    have own0 : OwW (w1.alloc (.cells #[.int .i64 1, .int .i64 0, .int .u8 0, .int .i64 3, .int .i64 0, .int .u8 0] 42)) w.heap.size (.slice (some ⟨w1.heap.size, 0, none⟩) 2 2) [⟨1, 0, 0⟩, ⟨3, 0, 0⟩] := own_madeW w1 w.heap.size b1.out.size [⟨1, 0, 0⟩, ⟨3, 0, 0⟩] (by simp)
    have B0 : Hid (Below w.heap.size w (w1.alloc (.cells #[.int .i64 1, .int .i64 0, .int .u8 0, .int .i64 3, .int .i64 0, .int .u8 0] 42))) := b1.out.alloc b1.out.size _
    have own0 : Hid (OwW (w1.alloc (.cells #[.int .i64 1, .int .i64 0, .int .u8 0, .int .i64 3, .int .i64 0, .int .u8 0] 42)) w.heap.size (.slice (some ⟨w1.heap.size, 0, none⟩) 2 2) [⟨1, 0, 0⟩, ⟨3, 0, 0⟩]) := own0
    clear HPl b1
    go_loopw [11, 37] (fun out i wr => ∃ k g cap : Nat, k ≤ n ∧ i = .int .i64 k ∧ out = .slice (some ⟨g, 0, none⟩) (2 + k) cap ∧ Hid (OwW wr w.heap.size (.slice (some ⟨g, 0, none⟩) (2 + k) cap) ([⟨1, 0, 0⟩, ⟨3, 0, 0⟩] ++ (d.take k).map (fun x => (⟨4, 0, x⟩ : WrT)))) ∧ Hid (Below w.heap.size w wr)) (fun _ i _ => n - (intOf i).toNat)
    case atStart => exact ⟨0, _, 2, Nat.zero_le _, rfl, rfl, (by have h := own0.out; simpa [Hid] using h : Hid (OwW _ w.heap.size (.slice (some ⟨w1.heap.size, 0, none⟩) (2 + 0) 2) ([⟨1, 0, 0⟩, ⟨3, 0, 0⟩] ++ (d.take 0).map (fun x => (⟨4, 0, x⟩ : WrT))))), B0⟩
    case round =>
      clear own0 B0
      obtain ⟨k, g, cap, hk, rfl, rfl, HO, HB⟩ := hrel
      by_cases hlt : k < n
      · obtain ⟨bg, bo, rfl, hbg, hcs⟩ : ∃ g o, a = some ⟨g, o, none⟩ ∧ g < w.heap.size ∧ ∀ j, j < n → w.cell? ⟨g, o + j, none⟩ = some (.int .u8 (fL d j : Nat)) := by
          rcases HD.out.1 with h | h
          · omega
          · exact h
        have cS : wr.cell? ⟨bg, bo + k, none⟩ = some (.int .u8 (fL d k : Nat)) := (HB.out.cell (p := ⟨bg, bo + k, none⟩) hbg).trans (hcs k hlt)
        have hx : d.take (k + 1) = d.take k ++ [fL d k] := by
          have hl := HD.out.2
          rw [List.take_add_one, List.getElem?_eq_getElem (by omega)]
          unfold fL
          rw [List.getD_eq_getElem?_getD, List.getElem?_eq_getElem (by omega)]
          rfl
        obtain ⟨x, hxx⟩ : ∃ x, fL d k = x := ⟨_, rfl⟩
        rw [hxx] at cS hx
        obtain ⟨g1, cap1, W1, hr, ho, hO⟩ := appWm wr w.heap.size g (2 + k) cap _ [⟨4, 0, x⟩] HO.out (by simp) (by simp; omega) HB.out.size
        have HR : Hid (∀ ty, (Builtin.append_ #[31, 31] ty #[.slice (some ⟨g, 0, none⟩) (2 + k) cap, .slice (some ⟨wr.heap.size, 0, none⟩) 1 1]).run Try.prog (wr.alloc (.cells #[.int .i64 4, .int .i64 0, .int .u8 (x : Nat)] 42)) = .ok (.slice (some ⟨g1, 0, none⟩) (2 + k + 1) cap1) W1) := hr
        have HO1 : Hid (OwW W1 w.heap.size (.slice (some ⟨g1, 0, none⟩) (2 + (k + 1)) cap1) ([⟨1, 0, 0⟩, ⟨3, 0, 0⟩] ++ (d.take (k + 1)).map (fun x => (⟨4, 0, x⟩ : WrT)))) := by
          rw [hx, List.map_append, ← List.append_assoc]
          exact ho
        have HB1 : Hid (Below w.heap.size w W1) := hO.below HB.out HB.out.size (fun _ e => e)
        have ik : (k : Int) < (n : Int) := by omega
        clear hr ho hO hx hxx hcs HO HB
        go_wp2_with (at_builtin; refine wpList_appB rfl _ _ 31 rfl _ _ rfl rfl _ _ HR.out ?_)
        go_roundw
        case rel => exact ⟨k + 1, g1, cap1, by omega, by go_num, rfl, HO1, HB1⟩
        case measure => simp [intOf]; omega
      · have hkn : k = n := by omega
        subst hkn
        have HO0 := HO.out
        rw [List.take_of_length_le (by have := HD.out.2; omega)] at HO0
        obtain ⟨g1, cap1, W1, hr, ho, hO⟩ := appWm wr w.heap.size g (2 + k) cap _ [⟨2, 0, q⟩, ⟨1, 0, 165⟩] HO0 (by simp) (by simp; omega) HB.out.size
        have HR : Hid (∀ ty, (Builtin.append_ #[31, 31] ty #[.slice (some ⟨g, 0, none⟩) (2 + k) cap, .slice (some ⟨wr.heap.size, 0, none⟩) 2 2]).run Try.prog (wr.alloc (.cells #[.int .i64 2, .int .i64 0, .int .u8 (q : Nat), .int .i64 1, .int .i64 0, .int .u8 165] 42)) = .ok (.slice (some ⟨g1, 0, none⟩) (2 + k + 2) cap1) W1) := hr
        have HB1 := hO.below HB.out HB.out.size (fun _ e => e)
        obtain ⟨g2, cap2, W2, hr2, ho2, hO2⟩ := appWm W1 w.heap.size g1 (2 + k + 2) cap1 _ [⟨1, 1, 0⟩] ho (by simp) (by simp; omega) HB1.size
        have HR2 : Hid (∀ ty, (Builtin.append_ #[31, 31] ty #[.slice (some ⟨g1, 0, none⟩) (2 + k + 2) cap1, .slice (some ⟨W1.heap.size, 0, none⟩) 1 1]).run Try.prog (W1.alloc (.cells #[.int .i64 1, .int .i64 1, .int .u8 0] 42)) = .ok (.slice (some ⟨g2, 0, none⟩) (2 + k + 2 + 1) cap2) W2) := hr2
        have HF : Hid (PlanR r d w (.returned (.tuple #[.slice (some ⟨g2, 0, none⟩) (2 + k + 2 + 1) cap2, .bool true])) W2) := planR_ok (by have := HD.out.2; omega) (by rw [HP.out]; exact ho2) (hO2.below HB1 HB1.size (fun _ e => e))
        have ik : ¬ (k : Int) < (k : Int) := by omega
        clear hr ho hO HB1 HO0 HO HB hr2 ho2 hO2
        go_upto_region 15 with (at_builtin; refine wpList_appB rfl _ _ 31 rfl _ _ rfl rfl _ _ HR.out ?_)
        go_wp2_with (at_builtin; refine wpList_appB rfl _ _ 31 rfl _ _ rfl rfl _ _ HR2.out ?_)
        go_ret2
        exact HF.out
  · have HPl := planL_n d s
    rw [s, hfP_none]
    clear s gt hs2
    have HPl : Hid _ := HPl
    go_wp2
    have HP : Hid (planL r d = ([⟨1, 0, 0⟩, ⟨3, 0, 0⟩] ++ d.map (fun x => (⟨4, 0, x⟩ : WrT)) ++ [⟨2, 0, 0⟩, ⟨1, 0, 165⟩])) := HPl
    have own0 : OwW (w1.alloc (.cells #[.int .i64 1, .int .i64 0, .int .u8 0, .int .i64 3, .int .i64 0, .int .u8 0] 42)) w.heap.size (.slice (some ⟨w1.heap.size, 0, none⟩) 2 2) [⟨1, 0, 0⟩, ⟨3, 0, 0⟩] := own_madeW w1 w.heap.size b1.out.size [⟨1, 0, 0⟩, ⟨3, 0, 0⟩] (by simp)
    have B0 : Hid (Below w.heap.size w (w1.alloc (.cells #[.int .i64 1, .int .i64 0, .int .u8 0, .int .i64 3, .int .i64 0, .int .u8 0] 42))) := b1.out.alloc b1.out.size _
    have own0 : Hid (OwW (w1.alloc (.cells #[.int .i64 1, .int .i64 0, .int .u8 0, .int .i64 3, .int .i64 0, .int .u8 0] 42)) w.heap.size (.slice (some ⟨w1.heap.size, 0, none⟩) 2 2) [⟨1, 0, 0⟩, ⟨3, 0, 0⟩]) := own0
    clear HPl b1
    go_loopw [11, 37] (fun out i wr => ∃ k g cap : Nat, k ≤ n ∧ i = .int .i64 k ∧ out = .slice (some ⟨g, 0, none⟩) (2 + k) cap ∧ Hid (OwW wr w.heap.size (.slice (some ⟨g, 0, none⟩) (2 + k) cap) ([⟨1, 0, 0⟩, ⟨3, 0, 0⟩] ++ (d.take k).map (fun x => (⟨4, 0, x⟩ : WrT)))) ∧ Hid (Below w.heap.size w wr)) (fun _ i _ => n - (intOf i).toNat)
    case atStart => exact ⟨0, _, 2, Nat.zero_le _, rfl, rfl, (by have h := own0.out; simpa [Hid] using h : Hid (OwW _ w.heap.size (.slice (some ⟨w1.heap.size, 0, none⟩) (2 + 0) 2) ([⟨1, 0, 0⟩, ⟨3, 0, 0⟩] ++ (d.take 0).map (fun x => (⟨4, 0, x⟩ : WrT))))), B0⟩
    case round =>
      clear own0 B0
      obtain ⟨k, g, cap, hk, rfl, rfl, HO, HB⟩ := hrel
      by_cases hlt : k < n
      · obtain ⟨bg, bo, rfl, hbg, hcs⟩ : ∃ g o, a = some ⟨g, o, none⟩ ∧ g < w.heap.size ∧ ∀ j, j < n → w.cell? ⟨g, o + j, none⟩ = some (.int .u8 (fL d j : Nat)) := by
          rcases HD.out.1 with h | h
          · omega
          · exact h
        have cS : wr.cell? ⟨bg, bo + k, none⟩ = some (.int .u8 (fL d k : Nat)) := (HB.out.cell (p := ⟨bg, bo + k, none⟩) hbg).trans (hcs k hlt)
        have hx : d.take (k + 1) = d.take k ++ [fL d k] := by
          have hl := HD.out.2
          rw [List.take_add_one, List.getElem?_eq_getElem (by omega)]
          unfold fL
          rw [List.getD_eq_getElem?_getD, List.getElem?_eq_getElem (by omega)]
          rfl
        obtain ⟨x, hxx⟩ : ∃ x, fL d k = x := ⟨_, rfl⟩
        rw [hxx] at cS hx
        obtain ⟨g1, cap1, W1, hr, ho, hO⟩ := appWm wr w.heap.size g (2 + k) cap _ [⟨4, 0, x⟩] HO.out (by simp) (by simp; omega) HB.out.size
        have HR : Hid (∀ ty, (Builtin.append_ #[31, 31] ty #[.slice (some ⟨g, 0, none⟩) (2 + k) cap, .slice (some ⟨wr.heap.size, 0, none⟩) 1 1]).run Try.prog (wr.alloc (.cells #[.int .i64 4, .int .i64 0, .int .u8 (x : Nat)] 42)) = .ok (.slice (some ⟨g1, 0, none⟩) (2 + k + 1) cap1) W1) := hr
        have HO1 : Hid (OwW W1 w.heap.size (.slice (some ⟨g1, 0, none⟩) (2 + (k + 1)) cap1) ([⟨1, 0, 0⟩, ⟨3, 0, 0⟩] ++ (d.take (k + 1)).map (fun x => (⟨4, 0, x⟩ : WrT)))) := by
          rw [hx, List.map_append, ← List.append_assoc]
          exact ho
        have HB1 : Hid (Below w.heap.size w W1) := hO.below HB.out HB.out.size (fun _ e => e)
        have ik : (k : Int) < (n : Int) := by omega
        clear hr ho hO hx hxx hcs HO HB
        go_wp2_with (at_builtin; refine wpList_appB rfl _ _ 31 rfl _ _ rfl rfl _ _ HR.out ?_)
        go_roundw
        case rel => exact ⟨k + 1, g1, cap1, by omega, by go_num, rfl, HO1, HB1⟩
        case measure => simp [intOf]; omega
      · have hkn : k = n := by omega
        subst hkn
        have HO0 := HO.out
        rw [List.take_of_length_le (by have := HD.out.2; omega)] at HO0
        obtain ⟨g1, cap1, W1, hr, ho, hO⟩ := appWm wr w.heap.size g (2 + k) cap _ [⟨2, 0, 0⟩, ⟨1, 0, 165⟩] HO0 (by simp) (by simp; omega) HB.out.size
        have HR : Hid (∀ ty, (Builtin.append_ #[31, 31] ty #[.slice (some ⟨g, 0, none⟩) (2 + k) cap, .slice (some ⟨wr.heap.size, 0, none⟩) 2 2]).run Try.prog (wr.alloc (.cells #[.int .i64 2, .int .i64 0, .int .u8 0, .int .i64 1, .int .i64 0, .int .u8 165] 42)) = .ok (.slice (some ⟨g1, 0, none⟩) (2 + k + 2) cap1) W1) := hr
        have HB1 := hO.below HB.out HB.out.size (fun _ e => e)
        have HF : Hid (PlanR r d w (.returned (.tuple #[.slice (some ⟨g1, 0, none⟩) (2 + k + 2) cap1, .bool true])) W1) := planR_ok (by have := HD.out.2; omega) (by rw [HP.out]; exact ho) HB1
        have ik : ¬ (k : Int) < (k : Int) := by omega
        clear hr ho hO HB1 HO0 HO HB
        go_wp2_with (at_builtin; refine wpList_appB rfl _ _ 31 rfl _ _ rfl rfl _ _ HR.out ?_)
        go_ret2
        exact HF.out
end Go.Proofs.Ytfhdpafaamkipaa
