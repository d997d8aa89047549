/- Rows of writes: marked, held. -/
import Derived.Test.YtfhdpafaamkipaaHwd
namespace Go.Proofs.Ytfhdpafaamkipaa
open Go.RowKit
set_option linter.unusedVariables false
set_option linter.unusedSimpArgs false

/-- The marks of writes, from a number on. -/
def mkW (q j : Nat) : WrT := ⟨(q + j * 3 : Nat), (q + j * 3 + 1 : Nat), (q + j * 3 + 2) % 256⟩
theorem mkW_wrap (q j : Nat) : IntKind.u8.wrap (((q + j * 3 : Nat) : Int) + 1 + 1) = ((mkW q j).byte : Nat) := by rw [IntKind.wrap_u8']; unfold mkW; simp only; omega
set_option maxRecDepth 10000 in
set_option maxHeartbeats 4000000 in
theorem mark_wyk (g n c q : Nat) (f : Nat → WrT) (w : World) (h : Wy w g n f) (hn : n ≤ 2000000) (hq : q ≤ 4194304) :
    Calls Try.prog 34 #[.slice (some ⟨g, 0, none⟩) n c, .int .i64 (q : Int)] w fun e w' => e = .returned (.int .i64 ((q + n * 3 : Nat) : Int)) ∧ Wy w' g n (mkW q) ∧ w.grownBy w' (some g) := by
  have HQ : Hid (∃ z : Int, z = q ∧ q ≤ 4194304) := ⟨_, rfl, hq⟩
  obtain ⟨z, hz⟩ : ∃ z : Int, (q : Int) = z := ⟨_, rfl⟩
  have HZ : Hid ((q : Int) = z) := hz
  rw [hz]
  have z0 : 0 ≤ z := by omega
  have z1 : z ≤ 4194304 := by omega
  clear hz hq
  go_enter Try.func34, Try.ntmps34
  go_wp2
  go_loopw [1, 5] (fun kk i wr => ∃ (k : Nat) (K : Int), k ≤ n ∧ i = .int .i64 k ∧ kk = .int .i64 K ∧ Hid (K = ((q + k * 3 : Nat) : Int)) ∧ 0 ≤ K ∧ K ≤ 12582912 ∧ Wy wr g n (fun j => if j < k then mkW q j else f j) ∧ w.grownBy wr (some g)) (fun _ i _ => n - (intOf i).toNat)
  case atStart => exact ⟨0, z, Nat.zero_le _, rfl, rfl, (by rw [← HZ.out]; simp : z = ((q + 0 * 3 : Nat) : Int)), z0, by omega, h.congr (fun j hj => by simp), gb_refl18 _ _⟩
  case round =>
    obtain ⟨k, K, hk, rfl, rfl, HK, hK0, hK1, hR, hG⟩ := hrel
    by_cases hlt : k < n
    · have hf := hR.frz
      have hc := hR.ws k hlt
      simp at hc
      obtain ⟨c0, c1, c2⟩ := hc
      have ik : (k : Int) < (n : Int) := by omega
      have f0 := hf (k * 3)
      have f1 := hf (k * 3 + 1)
      have f2 := hf (k * 3 + 1 + 1)
      have hm := mkW_wrap q k
      rw [← HK.out] at hm
      obtain ⟨M, HM⟩ : ∃ M, Hid (M = (mkW q k).byte) := ⟨_, rfl⟩
      rw [← HM.out] at hm
      have HN : Hid (Wy (((wr.setCell ⟨g, k * 3, none⟩ (.int .i64 K)).setCell ⟨g, k * 3 + 1, none⟩ (.int .i64 (K + 1))).setCell ⟨g, k * 3 + 1 + 1, none⟩ (.int .u8 (M : Nat))) g n (fun j => if j < k + 1 then mkW q j else f j)) := by
        have := hR.set k hlt ⟨K, K + 1, M⟩
        refine Wy.congr this fun j hj => ?_
        by_cases h1 : j = k
        · subst h1
          simp only [if_true, Nat.lt_succ_self]
          have e1 := HK.out
          have e2 := HM.out
          unfold mkW at e2 ⊢
          simp only at e2
          rw [e1, e2]
          simp
        · by_cases h2 : j < k
          · simp [h1, h2, show j < k + 1 by omega]
          · simp [h1, h2, show ¬ j < k + 1 by omega]
      have HG : Hid (w.grownBy (((wr.setCell ⟨g, k * 3, none⟩ (.int .i64 K)).setCell ⟨g, k * 3 + 1, none⟩ (.int .i64 (K + 1))).setCell ⟨g, k * 3 + 1 + 1, none⟩ (.int .u8 (M : Nat))) (some g)) := gb_set18 (gb_set18 (gb_set18 hG _ _) _ _) _ _
      have HK1 : Hid (K + 1 + 1 + 1 = ((q + (k + 1) * 3 : Nat) : Int)) := (by have := HK.out; show K + 1 + 1 + 1 = _; omega : K + 1 + 1 + 1 = ((q + (k + 1) * 3 : Nat) : Int))
      have hK2 : K + 1 + 1 + 1 ≤ 12582912 := by have := HK.out; have := HQ.out; have := HZ.out; omega
      clear hR hG HK HM hf
      go_wp2
      go_roundw
      case rel => exact ⟨k + 1, K + 1 + 1 + 1, by omega, by go_num, rfl, HK1, by omega, hK2, HN.out, HG.out⟩
      case measure => simp [intOf]; omega
    · have hkn : k = n := by omega
      have HR : Hid (Wy wr g n (mkW q)) := hR.congr (fun j hj => by simp [hkn, hj])
      have HF : Hid (K = ((q + n * 3 : Nat) : Int)) := (by rw [← hkn]; exact HK.out : K = ((q + n * 3 : Nat) : Int))
      have HG : Hid (w.grownBy wr (some g)) := hG
      clear hR HK hG
      subst hkn
      go_wp2
      go_ret
      exact ⟨(by have e := HF.out; show Ending.returned (.int .i64 K) = Ending.returned (.int .i64 _); congr 2), HR.out, HG.out⟩
set_option maxRecDepth 10000 in
set_option maxHeartbeats 4000000 in
theorem held_wyk (g n c q : Nat) (w : World) (h : Wy w g n (mkW q)) (hn : n ≤ 2000000) (hq : q ≤ 4194304) :
    Calls Try.prog 39 #[.slice (some ⟨g, 0, none⟩) n c, .int .i64 (q : Int)] w fun e w' => e = .returned (.int .i64 ((q + n * 3 : Nat) : Int)) ∧ Below w.heap.size w w' := by
  have HQ : Hid (q ≤ 4194304) := hq
  obtain ⟨z, hz⟩ : ∃ z : Int, (q : Int) = z := ⟨_, rfl⟩
  have HZ : Hid ((q : Int) = z) := hz
  rw [hz]
  have z0 : 0 ≤ z := by omega
  have z1 : z ≤ 4194304 := by omega
  clear hz hq
  go_enter Try.func39, Try.ntmps39
  go_wp2
  go_loop [1, 5] (fun kk i => ∃ (k : Nat) (K : Int), k ≤ n ∧ i = .int .i64 k ∧ kk = .int .i64 K ∧ Hid (K = ((q + k * 3 : Nat) : Int)) ∧ 0 ≤ K ∧ K ≤ 12582912) (fun _ i => n - (intOf i).toNat)
  case atStart => exact ⟨0, z, Nat.zero_le _, rfl, rfl, (by rw [← HZ.out]; simp : z = ((q + 0 * 3 : Nat) : Int)), z0, by omega⟩
  case round =>
    obtain ⟨k, K, hk, rfl, rfl, HK, hK0, hK1⟩ := hrel
    by_cases hlt : k < n
    · have hc := h.ws k hlt
      simp at hc
      obtain ⟨c0, c1, c2⟩ := hc
      rw [show (mkW q k).kind = K from HK.out.symm] at c0
      rw [show (mkW q k).slot = K + 1 from by rw [HK.out]; rfl] at c1
      have ik : (k : Int) < (n : Int) := by omega
      have hm := mkW_wrap q k
      rw [← HK.out] at hm
      have ib : ((((mkW q k).byte : Nat) : Int) != ((mkW q k).byte : Nat)) = false := by simp
      have ib1 : (K != K) = false := by simp
      have ib2 : (K + 1 != K + 1) = false := by simp
      generalize (((mkW q k).byte : Nat) : Int) = M at c2 hm ib
      have HK1 : Hid (K + 1 + 1 + 1 = ((q + (k + 1) * 3 : Nat) : Int)) := (by have := HK.out; show K + 1 + 1 + 1 = _; omega : K + 1 + 1 + 1 = ((q + (k + 1) * 3 : Nat) : Int))
      have hK2 : K + 1 + 1 + 1 ≤ 12582912 := by have := HK.out; have := HQ.out; omega
      clear HK
      go_wp2
      go_round
      case rel => exact ⟨k + 1, K + 1 + 1 + 1, by omega, by go_num, rfl, HK1, by omega, hK2⟩
      case measure => simp [intOf]; omega
    · have hkn : k = n := by omega
      have HF : Hid (K = ((q + n * 3 : Nat) : Int)) := (by rw [← hkn]; exact HK.out : K = ((q + n * 3 : Nat) : Int))
      clear HK
      subst hkn
      go_wp2
      go_ret
      exact ⟨(by have e := HF.out; show Ending.returned (.int .i64 K) = Ending.returned (.int .i64 _); congr 2), Below.refl _ _⟩
set_option maxHeartbeats 400000 in
theorem mark_wnil (c q : Nat) (w : World) : Calls Try.prog 34 #[.slice none 0 c, .int .i64 (q : Int)] w fun e w' => e = .returned (.int .i64 (q : Int)) ∧ w = w' := by
  go_enter Try.func34, Try.ntmps34
  go_wp2
  go_rounds 1
  go_ret
  exact ⟨rfl, rfl⟩
set_option maxHeartbeats 400000 in
theorem held_wnil (c q : Nat) (w : World) : Calls Try.prog 39 #[.slice none 0 c, .int .i64 (q : Int)] w fun e w' => e = .returned (.int .i64 (q : Int)) ∧ w = w' := by
  go_enter Try.func39, Try.ntmps39
  go_wp2
  go_rounds 1
  go_ret
  exact ⟨rfl, rfl⟩
theorem mark_ow (base : Nat) (a : Option Addr) (n c q : Nat) (f : Nat → WrT) (w : World) (h : Ow w base a n f) (hn : n ≤ 2000000) (hq : q ≤ 4194304) :
    Calls Try.prog 34 #[.slice a n c, .int .i64 (q : Int)] w fun e w' => e = .returned (.int .i64 ((q + n * 3 : Nat) : Int)) ∧ Ow w' base a n (mkW q) ∧ Outs (atB a) w w' := by
  rcases h with ⟨rfl, rfl⟩ | ⟨g, rfl, hb, h⟩
  · refine (mark_wnil c q w).mono ?_
    rintro e w' ⟨rfl, rfl⟩
    exact ⟨rfl, .inl ⟨rfl, rfl⟩, .of_below (Below.refl _ _)⟩
  · refine (mark_wyk g n c q f w h hn hq).mono ?_
    rintro e w' ⟨rfl, h1, h2⟩
    exact ⟨rfl, .inr ⟨g, rfl, hb, h1⟩, .of_grown h2 fun k e => by unfold atB; cases e; rfl⟩
theorem held_ow (base : Nat) (a : Option Addr) (n c q : Nat) (w : World) (h : Ow w base a n (mkW q)) (hn : n ≤ 2000000) (hq : q ≤ 4194304) :
    Calls Try.prog 39 #[.slice a n c, .int .i64 (q : Int)] w fun e w' => e = .returned (.int .i64 ((q + n * 3 : Nat) : Int)) ∧ Below w.heap.size w w' := by
  rcases h with ⟨rfl, rfl⟩ | ⟨g, rfl, hb, h⟩
  · refine (held_wnil c q w).mono ?_
    rintro e w' ⟨rfl, rfl⟩
    exact ⟨rfl, Below.refl _ _⟩
  · exact held_wyk g n c q w h hn hq
end Go.Proofs.Ytfhdpafaamkipaa
