/- A list's copy marked: the walks. -/
import Derived.Test.YtcihplachlokiaaDoorZaM
namespace Go.Proofs.YtcihplachlokiaaDoor
open Go.RowKit
set_option linter.unusedVariables false

theorem soft_free {w : World} {b : Nat} (h : ∃ C t, w.heap[b]? = some (.cells C t (0, 0))) (o : Nat) : w.frozen? ⟨b, o, none⟩ = false := by
  obtain ⟨C, t, k⟩ := h
  simp [World.frozen?, k]

theorem mark_args_w0 (a : Option Addr) (uc : Nat) (m : Int) (w : World) (hm0 : 0 ≤ m) (hm1 : m ≤ 8388608) : Calls Tryd.prog 42 #[.slice a 0 uc, .int .i64 m] w fun e w' => e = .returned (.int .i64 m) ∧ w' = w := by
  go_enter Tryd.func42, Tryd.ntmps42
  go_wp2
  go_loopg [1, 5] 0 (fun gg k i wr => i = .int .i64 0 ∧ k = .int .i64 m ∧ wr = w)
  case atStart => exact ⟨rfl, rfl, rfl⟩
  case round =>
    obtain ⟨rfl, rfl, rfl⟩ := hrel
    go_wp2
    go_ret
    exact ⟨rfl, rfl⟩

set_option maxRecDepth 10000 in
set_option maxHeartbeats 4000000 in
theorem mark_args_w (lo hi b o ul uc : Nat) (m : Int) (w : World) (hm0 : 0 ≤ m) (hm1 : m ≤ 4194304) (hul : ul ≤ 1048576) (hs : ∃ C t, w.heap[b]? = some (.cells C t (0, 0))) (hl : lo ≤ b) (hh : b < hi)
    (hc : ∀ i, i < ul * 3 → ∃ u, w.cell? ⟨b, o + i, none⟩ = some (.int .i64 u)) :
    Calls Tryd.prog 42 #[.slice (some ⟨b, o, none⟩) ul uc, .int .i64 m] w fun e w' => e = .returned (.int .i64 (m + 3 * (ul : Int))) ∧ WMk lo hi w w' := by
  have HS : Hid ((∃ C t, w.heap[b]? = some (.cells C t (0, 0))) ∧ lo ≤ b ∧ b < hi ∧ ∀ i, i < ul * 3 → ∃ u, w.cell? ⟨b, o + i, none⟩ = some (.int .i64 u)) := ⟨hs, hl, hh, hc⟩
  clear hs hl hh hc
  go_enter Tryd.func42, Tryd.ntmps42
  go_wp2
  go_loopg [1, 5] ul (fun gg k i wr => ∃ (n : Nat) (K : Int), n + gg = ul ∧ i = .int .i64 n ∧ k = .int .i64 K ∧ Hid (K = m + 3 * (n : Int)) ∧ 0 ≤ K ∧ K ≤ 8388608 ∧ Hid (WMk lo hi w wr))
  case atStart => exact ⟨0, m, by omega, rfl, rfl, by simp [Hid], by omega, by omega, WMk.refl _ _ _⟩
  case round =>
    obtain ⟨n, K, hn, rfl, rfl, HK, hK0, hK1, HW⟩ := hrel
    by_cases hlt : n < ul
    · have i1 : (n : Int) < (ul : Int) := by omega
      have i2 : (0 : Int) ≤ (n : Int) := by omega
      obtain ⟨hs, hl, hh, hc⟩ := HS.out
      obtain ⟨u0, q0⟩ := hc (n * 3) (by omega)
      obtain ⟨u1, q1⟩ := hc (n * 3 + 1) (by omega)
      obtain ⟨u2, q2⟩ := hc (n * 3 + 2) (by omega)
      obtain ⟨x0, c0⟩ := HW.out.num b (o + n * 3) u0 q0
      have f0 := soft_free (HW.out.soft b hs) (o + n * 3)
      have P1 := HW.out.trans (WMk.put c0 (HW.out.soft b hs) hl hh K)
      obtain ⟨x1, c1⟩ := P1.num b (o + n * 3 + 1) u1 q1
      have f1 := soft_free (P1.soft b hs) (o + n * 3 + 1)
      have P2 := P1.trans (WMk.put c1 (P1.soft b hs) hl hh (K + 1))
      obtain ⟨x2, c2⟩ := P2.num b (o + n * 3 + 1 + 1) u2 q2
      have f2 := soft_free (P2.soft b hs) (o + n * 3 + 1 + 1)
      have P3 := P2.trans (WMk.put c2 (P2.soft b hs) hl hh (K + 1 + 1))
      have HP3 : Hid (WMk lo hi w (((wr.setCell ⟨b, o + n * 3, none⟩ (.int .i64 K)).setCell ⟨b, o + n * 3 + 1, none⟩ (.int .i64 (K + 1))).setCell ⟨b, o + n * 3 + 1 + 1, none⟩ (.int .i64 (K + 1 + 1)))) := P3
      have HK2 : Hid (K + 1 + 1 + 1 = m + 3 * ((n + 1 : Nat) : Int)) := by show K + 1 + 1 + 1 = m + 3 * ((n + 1 : Nat) : Int); rw [HK.out]; omega
      have hK3 : K + 1 + 1 + 1 ≤ 8388608 := by have := HK.out; omega
      clear hs hl hh hc q0 q1 q2 P1 P2 P3 HW
      go_wp2
      go_roundg (gk - 1)
      case measure => omega
      case rel => exact ⟨n + 1, K + 1 + 1 + 1, by omega, by go_num, rfl, HK2, by omega, hK3, HP3⟩
    · have i1 : ¬ ((n : Int) < (ul : Int)) := by omega
      have hqn : n = ul := by omega
      have HKn : Hid (K = m + 3 * (ul : Int)) := (by rw [← hqn]; exact HK.out : K = m + 3 * (ul : Int))
      clear hqn HK
      go_wp2
      go_ret
      exact ⟨(by show Ending.returned (.int .i64 K) = _; rw [HKn.out]), HW.out⟩

/-- The operands of an instruction: numbers, in plain cells. -/
theorem args_nums {w : World} {lo : Nat} {u : Value} {xs : List ArgT} (h : RowIs w lo 3 ArgIs u xs) (hp : Plain lo w) : ∃ (a : Option Addr) (cp : Nat), u = .slice a xs.length cp ∧ (xs.length = 0 ∨ ∃ b o, a = some ⟨b, o, none⟩ ∧ lo ≤ b ∧ b < w.heap.size ∧ (∃ C t, w.heap[b]? = some (.cells C t (0, 0))) ∧ ∀ i, i < xs.length * 3 → ∃ v, w.cell? ⟨b, o + i, none⟩ = some (.int .i64 v)) := by
  obtain ⟨a, cp, rfl, _, hx⟩ := h
  refine ⟨a, cp, rfl, ?_⟩
  by_cases h0 : xs.length = 0
  · exact .inl h0
  · right
    obtain ⟨b, o, cs, rfl, hlo, _, hr, hR⟩ := hx 0 _ (List.getElem?_eq_getElem (by omega))
    have hR : cs = _ := hR
    have hc0 := hr 0 _ (by rw [hR]; rfl)
    have hbl := World.block_lt_of_cell? _ _ hc0
    refine ⟨b, o, rfl, hlo, hbl, hp b hlo hbl, fun i hi => ?_⟩
    obtain ⟨b', o', cs', e, _, _, hr', hR'⟩ := hx (i / 3) _ (List.getElem?_eq_getElem (by omega))
    simp only [Option.some.injEq, Addr.mk.injEq] at e
    obtain ⟨rfl, rfl, _⟩ := e
    have hR' : cs' = _ := hR'
    have hi3 : i % 3 = 0 ∨ i % 3 = 1 ∨ i % 3 = 2 := by omega
    have hdm : i / 3 * 3 + i % 3 = i := by omega
    rcases hi3 with h | h | h
    · have k := hr' 0 _ (by rw [hR']; rfl)
      rw [show o + i / 3 * 3 + 0 = o + i by omega] at k
      exact ⟨_, k⟩
    · have k := hr' 1 _ (by rw [hR']; rfl)
      rw [show o + i / 3 * 3 + 1 = o + i by omega] at k
      exact ⟨_, k⟩
    · have k := hr' 2 _ (by rw [hR']; rfl)
      rw [show o + i / 3 * 3 + 2 = o + i by omega] at k
      exact ⟨_, k⟩

set_option maxRecDepth 10000 in
set_option maxHeartbeats 4000000 in
theorem mark_insts_w (lo hi : Nat) (v : Value) (xs : List InstT) (w0 w : World) (hv : InstsIs w0 lo v xs) (hp : Plain lo w0) (hhi : w0.heap.size ≤ hi) (hW : WMk lo hi w0 w) (hbig : xs.length + (xs.map wI).sum ≤ 1048576) :
    Calls Tryd.prog 16 #[v, .int .i64 1] w fun e w' => ∃ K : Int, e = .returned (.int .i64 K) ∧ 0 ≤ K ∧ WMk lo hi w w' := by
  obtain ⟨a, cap, rfl, hl, hx⟩ := hv
  have HX : Hid (∀ j x, xs[j]? = some x → ∃ b o cs, a = some ⟨b, o, none⟩ ∧ lo ≤ b ∧ cs.length = 3 ∧ w0.rangeAt b (o + j * 3) cs ∧ InstIs w0 lo x cs) := hx
  have HPl : Hid (Plain lo w0 ∧ w0.heap.size ≤ hi) := ⟨hp, hhi⟩
  have HW0 : Hid (WMk lo hi w0 w) := hW
  have HTot : Hid (∀ n, n ≤ xs.length → n + ((xs.take n).map wI).sum ≤ 1048576) := fun n hn => by have := sum_take_le wI xs n; omega
  obtain ⟨len, HL⟩ : ∃ len, Hid (len = xs.length) := ⟨_, rfl⟩
  rw [← HL.out] at hl ⊢
  have hlen : len ≤ 1048576 := by have := HL.out; omega
  clear hx hp hhi hW hbig
  go_enter Tryd.func16, Tryd.ntmps16
  go_wp2
  go_loopg [1, 5] len (fun gg k i wr => ∃ (n : Nat) (K : Int), n + gg = len ∧ i = .int .i64 n ∧ k = .int .i64 K ∧ Hid (K ≤ 1 + 3 * ((n : Int) + (((xs.take n).map wI).sum : Nat))) ∧ 0 ≤ K ∧ K ≤ 4000000 ∧ Hid (WMk lo hi w wr))
  case atStart => exact ⟨0, 1, by omega, rfl, rfl, (by simp : (1 : Int) ≤ 1 + 3 * (((0 : Nat) : Int) + (((xs.take 0).map wI).sum : Nat))), by omega, by omega, WMk.refl _ _ _⟩
  case round =>
    obtain ⟨n, K, hn, rfl, rfl, HK, hK0, hK1, HW⟩ := hrel
    by_cases hlt : n < len
    · have i1 : (n : Int) < (len : Int) := by omega
      have i2 : (0 : Int) ≤ (n : Int) := by omega
      obtain ⟨x, hxn⟩ : ∃ x, xs[n]? = some x := ⟨_, List.getElem?_eq_getElem (by have := HL.out; omega)⟩
      obtain ⟨b, o, cs, rfl, hlo, hcs, hrg, u, rfl, hR⟩ := HX.out n x hxn
      have q0 : w0.cell? ⟨b, o + n * 3, none⟩ = some (.int .i64 x.code) := by have := hrg 0 _ rfl; simpa using this
      have q1 : w0.cell? ⟨b, o + n * 3 + 1, none⟩ = some (.int .i64 x.one.op) := hrg 1 _ rfl
      have q2 : w0.cell? ⟨b, o + n * 3 + 1 + 1, none⟩ = some u := hrg 2 _ rfl
      have hbl := World.block_lt_of_cell? _ _ q0
      have hsf := HPl.out.1 b hlo hbl
      have hbh : b < hi := by have := HPl.out.2; simp only at hbl; omega
      obtain ⟨ua, uc, rfl, hcase⟩ := args_nums hR HPl.out.1
      have H0 := HW0.out.trans HW.out
      obtain ⟨x0, c0⟩ := H0.num b (o + n * 3) _ q0
      have f0 := soft_free (H0.soft b hsf) (o + n * 3)
      have D1 := WMk.put (lo := lo) (hi := hi) c0 (H0.soft b hsf) hlo hbh K
      have P1 := H0.trans D1
      obtain ⟨x1, c1⟩ := P1.num b (o + n * 3 + 1) _ q1
      have f1 := soft_free (P1.soft b hsf) (o + n * 3 + 1)
      have D2 := WMk.put (lo := lo) (hi := hi) c1 (P1.soft b hsf) hlo hbh (K + 1)
      have P2 := P1.trans D2
      have c2 := P2.cell b (o + n * 3 + 1 + 1) _ q2 (by simp)
      have HP2 : Hid (WMk lo hi w ((wr.setCell ⟨b, o + n * 3, none⟩ (.int .i64 K)).setCell ⟨b, o + n * 3 + 1, none⟩ (.int .i64 (K + 1)))) := (HW.out.trans D1).trans D2
      have hsum : ((xs.take (n + 1)).map wI).sum = ((xs.take n).map wI).sum + wI x := sum_take _ _ _ _ hxn
      have htot := HTot.out (n + 1) (by have := HL.out; omega)
      have hwx : wI x = x.one.args.length := rfl
      obtain ⟨ul, Hul⟩ : ∃ l, Hid (l = x.one.args.length) := ⟨_, rfl⟩
      rw [← Hul.out] at c2 hwx hcase
      have HK3 : Hid (K + 1 + 1 + 3 * (ul : Int) ≤ 1 + 3 * (((n + 1 : Nat) : Int) + (((xs.take (n + 1)).map wI).sum : Nat))) := by
        show K + 1 + 1 + 3 * (ul : Int) ≤ 1 + 3 * (((n + 1 : Nat) : Int) + (((xs.take (n + 1)).map wI).sum : Nat))
        have := HK.out
        omega
      have hK4 : K + 1 + 1 + 3 * (ul : Int) ≤ 4000000 := by have := HK3.out; omega
      have hul : ul ≤ 1048576 := by omega
      have HCl : Hid (Calls Tryd.prog 42 #[.slice ua ul uc, .int .i64 (K + 1 + 1)] ((wr.setCell ⟨b, o + n * 3, none⟩ (.int .i64 K)).setCell ⟨b, o + n * 3 + 1, none⟩ (.int .i64 (K + 1))) fun e w' => e = .returned (.int .i64 (K + 1 + 1 + 3 * (ul : Int))) ∧ WMk lo hi ((wr.setCell ⟨b, o + n * 3, none⟩ (.int .i64 K)).setCell ⟨b, o + n * 3 + 1, none⟩ (.int .i64 (K + 1))) w') := by
        rcases hcase with h0 | ⟨b', o', rfl, hlo', hbl', hsf', hcells⟩
        · subst h0
          exact (mark_args_w0 ua uc (K + 1 + 1) _ (by omega) (by omega)).mono fun e w' ⟨h1, h2⟩ => ⟨by rw [h1]; simp, by rw [h2]; exact WMk.refl _ _ _⟩
        · exact mark_args_w lo hi b' o' ul uc (K + 1 + 1) _ (by omega) (by omega) hul (P2.soft b' hsf') hlo' (by have := HPl.out.2; omega) (fun i hi => by
            obtain ⟨v, hv⟩ := hcells i hi
            exact P2.num b' (o' + i) v hv)
      clear hrg hcs hR hlo q0 q1 q2 hbl hsf hbh P1 P2 H0 D1 D2 hsum htot hwx hcase HX HK
      go_wp2_with fail
      refine HCl.out.mono ?_
      rintro e w5 ⟨rfl, g5⟩
      have HP5 : Hid (WMk lo hi w w5) := HP2.out.trans g5
      clear g5 HCl HP2 c0 c1 c2 f0 f1
      go_wp2
      go_roundg (gk - 1)
      case measure => omega
      case rel => exact ⟨n + 1, _, by omega, by go_num, rfl, HK3, by omega, hK4, HP5⟩
    · have i1 : ¬ ((n : Int) < (len : Int)) := by omega
      clear HK
      go_wp2
      go_ret
      exact ⟨K, rfl, hK0, HW.out⟩
end Go.Proofs.YtcihplachlokiaaDoor
