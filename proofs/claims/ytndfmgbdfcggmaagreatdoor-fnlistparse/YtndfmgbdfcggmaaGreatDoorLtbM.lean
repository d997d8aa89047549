/- The law FnListBack: a drawn list is written and read back. -/
import Derived.Test.YtndfmgbdfcggmaaGreatDoorZuM
import Derived.Test.YtndfmgbdfcggmaaGreatDoorYnM
import Derived.Test.YtndfmgbdfcggmaaGreatDoorZcM
import Derived.Deep.RegionHeld3
import Derived.Deep.RegionLaw
namespace Go.Proofs.YtndfmgbdfcggmaaGreatDoor
open Go.RowKit Go.Shelf
set_option linter.unusedVariables false

theorem eqL_self (xs : List InstT) : eqB xs xs = true := eqB_true.2 rfl
set_option maxRecDepth 10000 in
set_option maxHeartbeats 8000000 in
/-- A list is drawn, one in sixteen spoilt. -/
theorem lany_r (w : World) (B R p : Nat) (h : Reader B w R p) (hp : p < 200000) :
    Calls Tryz.prog 20 #[.pointer (some ⟨R, 0, none⟩)] w fun e w' => ListR w B R p 4000 250000 e w' := by
  have hRB := h.1
  have hBw := h.2.1
  have HR : Hid (Reader B w R p) := h
  clear h
  go_enter Tryz.func20, Tryz.ntmps20
  go_wp2_with fail
  refine (sure_r w B R p HR.out (by omega)).mono ?_
  rintro e w3 ⟨b, n, cp, q, xs, rfl, hn, hn2, hq, hx, h3, g3, h8⟩
  have hs3 := g3.size
  have HX : Hid (RD w3 w.heap.size R (.slice b n cp) xs) := hx
  have HR3 : Hid (Reader B w3 R q) := h3
  have HG3 : Hid (w.grownBy w3 (some R)) := g3
  have H8 : Hid (∀ x ∈ xs, x.one.args.length ≤ 8) := h8
  clear hx h3 g3 h8
  go_wp2_with fail
  refine (pick_r B R q 16 w3 HR3.out (by omega) (by omega) (by omega)).mono ?_
  rintro e w4 ⟨t, t1, rfl, h4, g4⟩
  have hs4 := g4.size
  have HX4 : Hid (RD w4 w.heap.size R (.slice b n cp) xs) := HX.out.move g4 (fun j hj => by cases hj; omega)
  have HR4 : Hid (Reader B w4 R (q + 1)) := h4
  have HG4 : Hid (w.grownBy w4 (some R)) := gb_pick HG3.out g4
  clear h4 g4 HX HR3 HG3
  by_cases ht : t = 0
  · subst ht
    have HS : Hid (Calls Tryz.prog 46 #[.pointer (some ⟨R, 0, none⟩), .slice b n cp] w4 fun e w' => ListH w.heap.size w4 B R (q + 1) (2800 + 1) 1500 e w') := lspoil_r 2800 (by omega) (by omega) w4 B R (q + 1) w.heap.size HR4.out (by omega) (by omega) b n cp xs hn hn2 HX4.out (fun x hx => Nat.le_succ_of_le (H8.out x hx)) (by omega)
    go_wp2_with fail
    refine HS.out.mono ?_
    rintro e w5 ⟨b5, n5, cp5, q5, xs5, rfl, hn5, hn52, hq5, hx5, h5, g5⟩
    have HF : Hid (ListR w B R p 4000 250000 (.returned (.slice b5 n5 cp5)) w5) := ⟨b5, n5, cp5, q5, xs5, rfl, hn5, by omega, by omega, hx5, h5, gb_pick HG4.out g5⟩
    clear hn5 hx5 h5 g5 HS
    go_wp2
    go_ret
    exact HF.out
  · have i1 : ((t : Int) == 0) = false := by simp; omega
    have HF : Hid (ListR w B R p 4000 250000 (.returned (.slice b n cp)) w4) := ⟨b, n, cp, q + 1, xs, rfl, hn, by omega, by omega, HX4.out, HR4.out, HG4.out⟩
    clear hn
    go_wp2
    go_ret
    exact HF.out
/-- An element of a list that is loaded. -/
theorem inst_load {W : World} {lo : Nat} {a : Option Addr} {n cap : Nat} {xs : List InstT} {i : Nat} {x : InstT} (h : InstsIs W lo (.slice a n cap) xs) (hx : xs[i]? = some x) :
    ∃ (b o : Nat) (c : Option Addr) (ln cc : Nat), a = some ⟨b, o, none⟩ ∧ ln = x.one.args.length ∧ Sl W c x.one.args ∧ (∀ W', Below W.heap.size W W' → (loadVar 31 ⟨b, o + i * 3, none⟩).run Tryz.prog W' = .ok (.agg #[.int .i64 x.code, .int .i64 x.one.op, .slice c ln cc]) W') ∧ (∀ W', Below W.heap.size W W' → W'.cell? ⟨b, o + i * 3, none⟩ = some (.int .i64 x.code) ∧ W'.cell? ⟨b, o + i * 3 + 1, none⟩ = some (.int .i64 x.one.op) ∧ W'.cell? ⟨b, o + i * 3 + 2, none⟩ = some (.slice c ln cc)) := by
  obtain ⟨a', cap', e, hl, hr⟩ := h
  simp only [Value.slice.injEq] at e
  obtain ⟨rfl, rfl, rfl⟩ := e
  obtain ⟨b, o, cs, rfl, _, hcs, hrg, v, rfl, hv⟩ := hr i x hx
  obtain ⟨c, cc, rfl, hl2, hx2⟩ := id hv
  obtain ⟨h1, h2⟩ := sl_of hv
  exact ⟨b, o, c, x.one.args.length, cc, rfl, rfl, h2, fun W' g => run_loadVar_mid W' b (o + i * 3) 31 [.int .i64 x.code, .int .i64 x.one.op, .slice c x.one.args.length cc] _ (fun i c hi => (Keeps.of_below g 0) _ _ _ (Nat.zero_le _) (hrg i c hi)) Tryz.underlying31 rfl (by kernel_rfl), fun W' g => ⟨(Keeps.of_below g 0) _ _ _ (Nat.zero_le _) (hrg 0 _ rfl), (Keeps.of_below g 0) _ _ _ (Nat.zero_le _) (hrg 1 _ rfl), (Keeps.of_below g 0) _ _ _ (Nat.zero_le _) (hrg 2 _ rfl)⟩⟩
end Go.Proofs.YtndfmgbdfcggmaaGreatDoor
/- Texts of lists are drawn. -/
namespace Go.Proofs.YtndfmgbdfcggmaaGreatDoor
open Go.RowKit Go.Shelf
set_option linter.unusedVariables false

set_option maxRecDepth 10000 in
set_option maxHeartbeats 4000000 in
/-- A text so many times. -/
theorem many_s (s : ByteArray) (n : Nat) (w : World) (h1 : 1 ≤ s.size) (hs : s.size ≤ 4) (hn : n ≤ 52000) :
    Calls Tryz.prog 31 #[.string s, .int .i64 n] w fun e w' => ∃ v : ByteArray, e = .returned (.string v) ∧ v.size = n * s.size ∧ Below w.heap.size w w' := by
  obtain ⟨T, HT⟩ : ∃ T, Hid (T = n * s.size) := ⟨_, rfl⟩
  have hT : T ≤ 208000 := by rw [HT.out]; exact Nat.le_trans (Nat.mul_le_mul hn hs) (by decide)
  rw [← HT.out]
  go_enter Tryz.func31, Tryz.ntmps31
  go_wp2
  go_loopg [0, 1, 5] n (fun g sv nv ov wr => ∃ (m : Nat) (S O : ByteArray), m ≤ g ∧ sv = .string S ∧ nv = .int .i64 m ∧ ov = .string O ∧ Hid (O.size + m * S.size = T) ∧ S.size ≤ 416000 ∧ m ≤ 52000 ∧ Below w.heap.size w wr)
  case atStart => exact ⟨n, s, ⟨#[]⟩, Nat.le_refl _, rfl, rfl, rfl, (by show 0 + _ = T; rw [HT.out]; omega), by omega, hn, Below.refl _ _⟩
  case round =>
    obtain ⟨m, S, O, hm, rfl, rfl, rfl, HE, hS, hm2, hb⟩ := hrel
    have hO : O.size ≤ 208000 := by have := HE.out; omega
    by_cases h0 : 0 < m
    · have i0 : (0 : Int) < (m : Int) := by omega
      have hmul : S.size ≤ m * S.size := Nat.le_mul_of_pos_left _ h0
      have hS2 : S.size ≤ 208000 := by have := HE.out; omega
      clear hmul
      have e1 : Int.tdiv (m : Int) 2 = ((m / 2 : Nat) : Int) := (Int.ofNat_tdiv m 2).symm
      have e2 : Int.tmod (m : Int) 2 = ((m % 2 : Nat) : Int) := (Int.ofNat_tmod m 2).symm
      have hq : m % 2 = 0 ∨ m % 2 = 1 := by omega
      have hdbl : m / 2 * (S.size + S.size) = 2 * (m / 2) * S.size := by rw [← Nat.two_mul, Nat.mul_left_comm, ← Nat.mul_assoc]
      rcases hq with hq | hq
      · have e3 : ((((m % 2 : Nat) : Int)) == 1) = false := by rw [hq]; rfl
        have HE' : Hid (O.size + m / 2 * (S ++ S).size = T) := by
          show O.size + m / 2 * (S ++ S).size = T
          rw [ByteArray.size_append, hdbl, show 2 * (m / 2) = m by omega]; exact HE.out
        clear HE hdbl
        go_wp2
        go_roundg (gk - 1)
        case measure => omega
        case rel => exact ⟨m / 2, S ++ S, O, by omega, rfl, congrArg (Value.int .i64) (by omega), rfl, HE', by rw [ByteArray.size_append]; omega, by omega, hb⟩
      · have e3 : ((((m % 2 : Nat) : Int)) == 1) = true := by rw [hq]; rfl
        have HE' : Hid ((O ++ S).size + m / 2 * (S ++ S).size = T) := by
          show (O ++ S).size + m / 2 * (S ++ S).size = T
          rw [ByteArray.size_append, ByteArray.size_append, hdbl, ← HE.out]
          have : m * S.size = 2 * (m / 2) * S.size + S.size := by
            have : m = 2 * (m / 2) + 1 := by omega
            conv => lhs; rw [this]
            rw [Nat.add_mul, Nat.one_mul]
          omega
        clear HE hdbl
        go_wp2
        go_roundg (gk - 1)
        case measure => omega
        case rel => exact ⟨m / 2, S ++ S, O ++ S, by omega, rfl, congrArg (Value.int .i64) (by omega), rfl, HE', by rw [ByteArray.size_append]; omega, by omega, hb⟩
    · have i0 : ¬ ((0 : Int) < (m : Int)) := by omega
      have hz : O.size = T := by have := HE.out; have : m = 0 := by omega
                                 subst this; omega
      clear HE
      go_wp2
      go_ret
      exact ⟨O, rfl, hz, hb⟩

def textsA11 : List ByteArray := [⟨#[]⟩, ⟨#[10]⟩, ⟨#[108, 100]⟩, ⟨#[108, 100, 32, 88, 48, 32, 88, 49]⟩, ⟨#[108, 100, 32, 111, 117, 116, 58, 89, 48]⟩, ⟨#[99, 111, 105, 108, 32, 88, 48]⟩, ⟨#[99, 111, 105, 108]⟩, ⟨#[99, 111, 105, 108, 32, 111, 117, 116, 58, 89, 48]⟩, ⟨#[111, 117, 116, 58, 89, 48]⟩, ⟨#[97, 110, 98, 32, 88, 48]⟩, ⟨#[76, 68, 32, 88, 48]⟩, ⟨#[101, 110, 100, 32, 101, 110, 100]⟩, ⟨#[32, 32, 108, 100, 32, 32, 32, 88, 48, 32, 32, 10, 10, 32, 101, 110, 100]⟩, ⟨#[108, 100, 9, 88, 48]⟩, ⟨#[97, 110, 100, 32, 47, 88, 49, 10, 111, 114, 10]⟩, ⟨#[109, 112, 115, 10, 109, 114, 100, 10, 109, 112, 112]⟩, ⟨#[119, 104, 97, 116]⟩, ⟨#[105, 110, 118, 32, 105, 110, 118]⟩]
def textsB11 : List ByteArray := [⟨#[32]⟩, ⟨#[10]⟩, ⟨#[120]⟩, ⟨#[108, 100]⟩, ⟨#[48]⟩]
theorem small11 : (∀ v ∈ textsA11, v.size ≤ 30) ∧ (∀ v ∈ textsB11, v.size ≤ 30) := by refine ⟨?_, ?_⟩ <;> decide +kernel
theorem row11 (w : World) (xs : List ByteArray) (t : TypeId) : ∀ j x, xs[j]? = some x → (w.alloc (.cells (xs.map Value.string).toArray t)).cell? ⟨w.heap.size, j, none⟩ = some (.string x) := by
  intro j x hx
  rw [World.cell?_alloc_at _ _ _ _ rfl]
  simp [hx]
/-- What a draw of a text leaves. -/
def TextR (w : World) (e : Ending) (w' : World) : Prop := ∃ s : ByteArray, e = .returned (.string s) ∧ s.size ≤ 60000 ∧ Below w.heap.size w w'

set_option maxRecDepth 100000 in
set_option maxHeartbeats 8000000 in
theorem drawlparse_r {a : Option Addr} {len cap blk off : Nat} {z : Nat → Int} (w : World) (h : Code0 w a len cap blk off z) :
    Calls Tryz.prog 12 #[.slice a len cap] w fun e w' => TextR w e w' := by
  go_enter Tryz.func12, Tryz.ntmps12
  go_wp2_with fail
  refine h.open.mono ?_
  rintro e w1 ⟨rfl, h1, g1⟩
  have hB1 := h1.2.1
  have HR : Hid (Reader (w.heap.size + 1) w1 w.heap.size 0) := h1
  have HG : Hid (Below w.heap.size w w1) := g1
  clear h h1 g1
  go_wp2_with fail
  refine (lany_r w1 _ _ 0 HR.out (by omega)).mono ?_
  rintro e w3 ⟨b, n, cp, q, xs, rfl, hn, hn2, hq, hx, h3, g3⟩
  have HI : Hid (InstsIs w3 0 (.slice b n cp) xs) := hx.is (by have := hn.out; omega)
  have HG3 : Hid (Below w.heap.size w w3) := HG.out.grown g3 (by omega) (fun j hj => by cases hj; omega)
  have HR3 : Hid (Reader (w.heap.size + 1) w3 w.heap.size q) := h3
  obtain ⟨S, HS⟩ : ∃ r, Hid (r = listT xs) := ⟨_, rfl⟩
  have hS : S.size ≤ 49000 := by rw [HS.out]; exact listT_size xs
  have HTk : Hid (Calls Tryz.prog 8 #[.slice b n cp] w3 fun e w' => e = .returned (.string S) ∧ Below w3.heap.size w3 w') := by
    rw [HS.out]; exact ltext_s _ xs w3 0 HI.out
  clear hn hx h3 g3 HS HI HR HG
  go_wp2_with fail
  refine HTk.out.mono ?_
  rintro e w4 ⟨rfl, g4⟩
  have HR4 : Hid (Reader (w.heap.size + 1) w4 w.heap.size q) := HR3.out.later g4
  have HG4 : Hid (Below w.heap.size w w4) := HG3.out.trans (g4.mono HG3.out.size)
  clear g4 HTk HR3 HG3
  go_wp2_with fail
  refine (pick_r _ _ q 30 w4 HR4.out (by omega) (by omega) (by omega)).mono ?_
  rintro e w5 ⟨t, t1, rfl, h5, g5⟩
  have hs4 := HR4.out.2.1
  have HG5 : Hid (Below w.heap.size w w5) := HG4.out.grown g5 (by omega) (fun j hj => by cases hj; omega)
  have HR5 : Hid (Reader (w.heap.size + 1) w5 w.heap.size (q + 1)) := h5
  have hs5 := h5.2.1
  clear h5 g5 HR4 HG4
  have ht : t = 0 ∨ t = 1 ∨ (t = 2 ∨ t = 3 ∨ t = 4) ∨ (t = 5 ∨ t = 6 ∨ t = 7) ∨ 8 ≤ t := by omega
  rcases ht with rfl | rfl | ht | ht | ht
  · go_wp2_with fail
    refine (pick_r _ _ (q + 1) 2 w5 HR5.out (by omega) (by omega) (by omega)).mono ?_
    rintro e w6 ⟨r, r1, rfl, h6, g6⟩
    have HG6 : Hid (Below w.heap.size w w6) := HG5.out.grown g6 (by omega) (fun j hj => by cases hj; omega)
    have HM : Hid (Calls Tryz.prog 31 #[.string ⟨#[32]⟩, .int .i64 (50000 - (S.size : Int) + r)] w6 fun e w' => ∃ v : ByteArray, e = .returned (.string v) ∧ v.size ≤ 51002 - S.size ∧ Below w6.heap.size w6 w') := by
      have := many_s ⟨#[32]⟩ (50000 - S.size + r) w6 (by decide) (by decide) (by omega)
      rw [show ((50000 - S.size + r : Nat) : Int) = 50000 - (S.size : Int) + r by omega] at this
      exact this.mono fun e w' ⟨v, e1, e2, e3⟩ => ⟨v, e1, by rw [e2, show (⟨#[32]⟩ : ByteArray).size = 1 from rfl]; omega, e3⟩
    clear h6 g6
    go_wp2_with fail
    refine HM.out.mono ?_
    rintro e w7 ⟨v, rfl, hv, g7⟩
    have HF : Hid (Below w.heap.size w w7) := HG6.out.trans (g7.mono HG6.out.size)
    clear g7 HM
    go_wp2
    go_ret
    exact ⟨S ++ v, rfl, by rw [ByteArray.size_append]; omega, HF.out⟩
  · go_wp2_with fail
    refine (num_r _ _ (q + 1) w5.heap.size [990, 999, 1000, 1001] 4 _ (HR5.out.alloc _) (by decide) (by decide) (by omega) (by omega) (by
      intro j x hx
      rw [World.cell?_alloc_at _ _ _ _ rfl]
      match j, hx with
      | 0, hx => cases hx; rfl
      | 1, hx => cases hx; rfl
      | 2, hx => cases hx; rfl
      | 3, hx => cases hx; rfl
      | (j + 4), hx => simp at hx)).mono ?_
    rintro e w6 ⟨m, hm, rfl, h6, g6⟩
    have HG6 : Hid (Below w.heap.size w w6) := (HG5.out.alloc HG5.out.size _).grown g6 (by simp; omega) (fun j hj => by cases hj; omega)
    have hm2 : 0 ≤ m ∧ m ≤ 1001 := by simp at hm; omega
    have HM : Hid (Calls Tryz.prog 31 #[.string ⟨#[105, 110, 118, 10]⟩, .int .i64 m] w6 fun e w' => ∃ v : ByteArray, e = .returned (.string v) ∧ v.size ≤ 4004 ∧ Below w6.heap.size w6 w') := by
      have := many_s ⟨#[105, 110, 118, 10]⟩ m.toNat w6 (by decide) (by decide) (by omega)
      rw [show ((m.toNat : Nat) : Int) = m by omega] at this
      exact this.mono fun e w' ⟨v, e1, e2, e3⟩ => ⟨v, e1, by rw [e2, show (⟨#[105, 110, 118, 10]⟩ : ByteArray).size = 4 from rfl]; omega, e3⟩
    clear h6 g6 hm hm2
    go_wp2_with fail
    refine HM.out.mono ?_
    rintro e w7 ⟨v, rfl, hv, g7⟩
    have HF : Hid (Below w.heap.size w w7) := HG6.out.trans (g7.mono HG6.out.size)
    clear g7 HM
    go_wp2
    go_ret
    exact ⟨S ++ v, rfl, by rw [ByteArray.size_append]; omega, HF.out⟩
  · rcases ht with rfl | rfl | rfl
    all_goals
      go_wp2_with fail
      refine (of_r _ _ (q + 1) w5.heap.size textsA11 18 _ (HR5.out.alloc _) (by decide) (by decide) (by omega) (by omega) (by exact row11 w5 textsA11 9)).mono ?_
      rintro e w6 ⟨v, hv, rfl, h6, g6⟩
      have hv' := small11.1 v hv
      have HF : Hid (Below w.heap.size w w6) := (HG5.out.alloc HG5.out.size _).grown g6 (by simp; omega) (fun j hj => by cases hj; omega)
      clear h6 g6 hv
      go_wp2
      go_ret
      exact ⟨v ++ ⟨#[10]⟩ ++ S, rfl, by rw [ByteArray.size_append, ByteArray.size_append]; show v.size + 1 + S.size ≤ 60000; omega, HF.out⟩
  · have hk : ∀ s : Int, s = 5 ∨ s = 6 ∨ s = 7 → True := fun _ _ => trivial
    rcases ht with rfl | rfl | rfl
    all_goals
      go_wp2_with fail
      refine (pick_r _ _ (q + 1) ((S.size : Int) + 1) w5 HR5.out (by omega) (by omega) (by omega)).mono ?_
      rintro e w6 ⟨k, k1, rfl, h6, g6⟩
      have HG6 : Hid (Below w.heap.size w w6) := HG5.out.grown g6 (by omega) (fun j hj => by cases hj; omega)
      have HR6 : Hid (Reader (w.heap.size + 1) w6 w.heap.size (q + 1 + 1)) := h6
      have hs6 := h6.2.1
      have kS : (k : Int) ≤ (S.size : Int) := by omega
      have k0 : (0 : Int) ≤ (k : Int) := by omega
      obtain ⟨A, HA⟩ : ∃ A, Hid (A = S.extract 0 k) := ⟨_, rfl⟩
      obtain ⟨B, HB⟩ : ∃ B, Hid (B = S.extract k S.size) := ⟨_, rfl⟩
      have hA : A.size ≤ 49000 := by rw [HA.out, ByteArray.size_extract]; omega
      have hB : B.size ≤ 49000 := by rw [HB.out, ByteArray.size_extract]; omega
      have hAB : A.size + B.size ≤ 49000 := by rw [HA.out, HB.out, ByteArray.size_extract, ByteArray.size_extract]; omega
      have HOf0 : Hid (Calls Tryz.prog 33 #[.pointer (some ⟨w.heap.size, 0, none⟩), .slice (some ⟨w6.heap.size, 0, none⟩) 5 5] (w6.drew.alloc (.cells #[.string ⟨#[32]⟩, .string ⟨#[10]⟩, .string ⟨#[120]⟩, .string ⟨#[108, 100]⟩, .string ⟨#[48]⟩] 9)) fun e w' => ∃ v : ByteArray, e = .returned (.string v) ∧ v.size ≤ 30 ∧ Below w.heap.size w w') := by
        refine (of_r (w.heap.size + 1) w.heap.size (q + 1 + 1) w6.heap.size textsB11 5 (w6.drew.alloc (.cells #[.string ⟨#[32]⟩, .string ⟨#[10]⟩, .string ⟨#[120]⟩, .string ⟨#[108, 100]⟩, .string ⟨#[48]⟩] 9)) (HR6.out.drew.alloc _) (by decide) (by decide) (by omega) (by omega) (by exact row11 w6.drew textsB11 9)).mono ?_
        rintro e w7 ⟨v, hv, rfl, h7, g7⟩
        have gd : Below w.heap.size w (w6.drew.alloc (.cells #[.string ⟨#[32]⟩, .string ⟨#[10]⟩, .string ⟨#[120]⟩, .string ⟨#[108, 100]⟩, .string ⟨#[48]⟩] 9)) := HG6.out.drew.alloc (by show _ ≤ w6.heap.size; omega) _
        exact ⟨v, rfl, small11.2 v hv, gd.grown g7 (by show _ ≤ (w6.alloc _).heap.size; simp; omega) (fun j hj => by cases hj; omega)⟩
      have HOf : Hid (Calls Tryz.prog 33 #[.pointer (some ⟨w.heap.size, 0, none⟩), .slice (some ⟨w6.heap.size, 0, none⟩) 5 5] (w6.alloc (.cells #[.string ⟨#[32]⟩, .string ⟨#[10]⟩, .string ⟨#[120]⟩, .string ⟨#[108, 100]⟩, .string ⟨#[48]⟩] 9)).drew fun e w' => ∃ v : ByteArray, e = .returned (.string v) ∧ v.size ≤ 30 ∧ Below w.heap.size w w') := HOf0
      clear h6 g6 HR6 HOf0
      have hE1 : (S.extract 0 k).size ≤ 49000 := by rw [← HA.out]; exact hA
      have hE2 : (S.extract k S.size).size ≤ 49000 := by rw [← HB.out]; exact hB
      have hE3 : (S.extract 0 k).size + (S.extract k S.size).size ≤ 49000 := by rw [← HA.out, ← HB.out]; exact hAB
      clear hA hB hAB HA HB
      go_upto_region 16 with fail
      go_region_law
        (first
          | (go_simp; (with_reducible refine HOf.out.mono ?_); rintro e w7 ⟨v, rfl, hv, g7⟩; have HF : Hid (Below w.heap.size w w7 ∧ v.size ≤ 30) := ⟨g7, hv⟩; have o1 : ¬ (9223372036854775807 < min k S.size + v.size) := by omega
             have o2 : ¬ (9223372036854775807 < min k S.size + v.size + (S.size - k)) := by omega
             clear g7; dsimp only)
          | fail)
      all_goals go_wp2
      all_goals go_ret
      all_goals exact ⟨_, rfl, by rw [ByteArray.size_append, ByteArray.size_append]; have := HF.out.2; omega, HF.out.1⟩
  · have f0 : ((t : Int) == 0) = false := by rw [beq_eq_false_iff_ne]; omega
    have f1 : ((t : Int) == 1) = false := by rw [beq_eq_false_iff_ne]; omega
    have f2 : ((t : Int) == 2) = false := by rw [beq_eq_false_iff_ne]; omega
    have f3 : ((t : Int) == 3) = false := by rw [beq_eq_false_iff_ne]; omega
    have f4 : ((t : Int) == 4) = false := by rw [beq_eq_false_iff_ne]; omega
    have f5 : ((t : Int) == 5) = false := by rw [beq_eq_false_iff_ne]; omega
    have f6 : ((t : Int) == 6) = false := by rw [beq_eq_false_iff_ne]; omega
    have f7 : ((t : Int) == 7) = false := by rw [beq_eq_false_iff_ne]; omega
    go_wp2
    go_ret
    exact ⟨S, rfl, by omega, HG5.out⟩
end Go.Proofs.YtndfmgbdfcggmaaGreatDoor
