/- The writer writes a net. -/
import Derived.Test.YtgopfaegdlefpaaGreatDoorVc
import Derived.Test.YtgopfaegdlefpaaGreatDoorGrM
namespace Go.Proofs.YtgopfaegdlefpaaGreatDoor
open Go.RowKit
set_option linter.unusedVariables false

/-- The signs by their kinds. -/
def sgA : List ByteArray := [⟨#[]⟩, ⟨#[]⟩, ⟨#[97, 110, 100, 40]⟩, ⟨#[111, 114, 40]⟩, ⟨#[110, 111, 116, 40]⟩, ⟨#[45, 62]⟩, ⟨#[91]⟩, ⟨#[124]⟩, ⟨#[93]⟩, ⟨#[41]⟩]
def sgK (k : Int) : ByteArray := sgA.getD k.toNat ⟨#[]⟩
def wNet (tx : Int → List ArgT → ByteArray) : Nat → NetT → List ByteArray
  | 0, _ => []
  | m + 1, .mk k e kids => if k = 1 then [tx e.op e.args] else sgK k :: (kids.flatMap (wNet tx m) ++ [sgK 9])
def kidsW : List (List ByteArray) → List ByteArray
  | [] => []
  | x :: xs => sgK 6 :: (x ++ (xs.flatMap (fun y => sgK 7 :: y) ++ [sgK 8]))
def wArm (tx : Int → List ArgT → ByteArray) : Nat → ArmT → List ByteArray
  | 0, _ => []
  | m + 1, .mk net coils kids => (if noneT net then [] else wNet tx m net) ++ sgK 5 :: (coils.map (fun e => tx e.op e.args) ++ kidsW (kids.map (wArm tx m)))

theorem NetIs.form {W : World} {lo : Nat} : ∀ {m : Nat} {t : NetT} {cs : List Value}, NetIs W lo m t cs → ∃ k op a1 l1 c1 a2 l2 c2, cs = [.int .i64 k, .int .i64 op, .slice a1 l1 c1, .slice a2 l2 c2]
  | 0, _, _, h => h.elim
  | m + 1, .mk k e kids, cs, h => by
    obtain ⟨v, v', rfl, ha, hk⟩ := h
    obtain ⟨a1, c1, rfl, _, _⟩ := ha
    obtain ⟨a2, c2, rfl, _, _⟩ := hk
    exact ⟨_, _, _, _, _, _, _, _, rfl⟩
theorem ArmIs.form {W : World} {lo : Nat} : ∀ {m : Nat} {t : ArmT} {cs : List Value}, ArmIs W lo m t cs → ∃ k op a1 l1 c1 a2 l2 c2 a3 l3 c3 a4 l4 c4, cs = [.int .i64 k, .int .i64 op, .slice a1 l1 c1, .slice a2 l2 c2, .slice a3 l3 c3, .slice a4 l4 c4]
  | 0, _, _, h => h.elim
  | m + 1, .mk net coils kids, cs, h => by
    obtain ⟨ns, v, v', rfl, hn, hc, hk⟩ := h
    obtain ⟨k, op, a1, l1, c1, a2, l2, c2, rfl⟩ := hn.form
    obtain ⟨a3, c3, rfl, _, _⟩ := hc
    obtain ⟨a4, c4, rfl, _, _⟩ := hk
    exact ⟨_, _, _, _, _, _, _, _, _, _, _, _, _, _, rfl⟩
/-- A call of the writer that writes a sign. -/
def SignOk (B : Nat) (k : Int) (s : ByteArray) : Prop := ∀ W v L, WrS sgA W B v L → L.length ≤ 1000000 →
  Calls Tryz.prog 68 #[.pointer (some ⟨B, 0, none⟩), .int .i64 k] W fun e W' => e = .returned (.tuple #[]) ∧ ∃ v', WrS sgA W' B v' (L ++ [s]) ∧ WK B v v' W W'
theorem signOk (B k : Nat) (hk : k < 10) : SignOk B (k : Int) (sgK k) := fun W v L h hL =>
  sign_w sgA B k (sgK k) hk (by
    have : k < sgA.length := hk
    rw [List.getElem?_eq_getElem this]
    unfold sgK
    rw [Int.toNat_natCast, List.getD_eq_getElem?_getD, List.getElem?_eq_getElem this]
    rfl) L v W h hL

set_option maxRecDepth 10000 in
set_option maxHeartbeats 4000000 in
theorem net_kids (tx : Int → List ArgT → ByteArray) (B : Nat) (k op : Int) (sk : ByteArray) (k1 : (k == 1) = false) (HS : Hid (SignOk B k sk)) (HS9 : Hid (SignOk B 9 (sgK 9))) (m : Nat) (a1 : Option Addr) (l1 c1 : Nat) (v2 : Value) (kids : List NetT) (w0 : World) (hB : w0.heap.size ≤ B) (hv : RowIs w0 0 4 (NetIs w0 0 m) v2 kids)
    (W : World) (v : Value) (L : List ByteArray) (hb : Below w0.heap.size w0 W) (h : WrS sgA W B v L) (hL : L.length + (1 + (kids.flatMap (wNet tx m)).length + 1) ≤ 1000000)
    (HK : Hid (∀ x cs, x ∈ kids → NetIs w0 0 m x cs → ∀ (W : World) v L, Below w0.heap.size w0 W → WrS sgA W B v L → L.length + (wNet tx m x).length ≤ 1000000 → Calls Tryz.prog 67 #[.pointer (some ⟨B, 0, none⟩), .agg cs.toArray] W fun e W' => e = .returned (.tuple #[]) ∧ ∃ v', WrS sgA W' B v' (L ++ wNet tx m x) ∧ WK B v v' W W')) :
    Calls Tryz.prog 67 #[.pointer (some ⟨B, 0, none⟩), .agg #[.int .i64 k, .int .i64 op, .slice a1 l1 c1, v2]] W fun e W' => e = .returned (.tuple #[]) ∧ ∃ v', WrS sgA W' B v' (L ++ (sk :: (kids.flatMap (wNet tx m) ++ [sgK 9]))) ∧ WK B v v' W W' := by
  obtain ⟨a, cap, rfl, hl, hx⟩ := hv
  have HX : Hid (∀ j x, kids[j]? = some x → ∃ b o cs, a = some ⟨b, o, none⟩ ∧ cs.length = 4 ∧ w0.rangeAt b (o + j * 4) cs ∧ (NetIs w0 0 m) x cs) := fun j x hj => by
    obtain ⟨b, o, cs, h1, _, h2, h3, h4⟩ := hx j x hj
    exact ⟨b, o, cs, h1, h2, h3, h4⟩
  obtain ⟨len, HLn⟩ : ∃ len, Hid (len = kids.length) := ⟨_, rfl⟩
  rw [← HLn.out] at hl ⊢
  have HWR : Hid (WrS sgA W B v L ∧ Below w0.heap.size w0 W ∧ L.length + (1 + (kids.flatMap (wNet tx m)).length + 1) ≤ 1000000) := ⟨h, hb, hL⟩
  clear hx h hb hL
  have gA : Below W.heap.size W (W.alloc (.cells #[.int .i64 k, .int .i64 op, .slice a1 l1 c1, .slice a len cap] 57)) := (Below.refl _ _).alloc (Nat.le_refl _) _
  have hk0 := heap_alloc_last W (.cells #[.int .i64 k, .int .i64 op, .slice a1 l1 c1, .slice a len cap] 57)
  have hlt := HWR.out.1.lt
  have how := HWR.out.1.own
  have HA0 : Hid ((W.alloc (.cells #[.int .i64 k, .int .i64 op, .slice a1 l1 c1, .slice a len cap] 57)).heap[W.heap.size]? = some (.cells #[.int .i64 k, .int .i64 op, .slice a1 l1 c1, .slice a len cap] 57 (0, 0)) ∧ WK B v v W (W.alloc (.cells #[.int .i64 k, .int .i64 op, .slice a1 l1 c1, .slice a len cap] 57)) ∧ WrS sgA (W.alloc (.cells #[.int .i64 k, .int .i64 op, .slice a1 l1 c1, .slice a len cap] 57)) B v L ∧ W.heap.size ≠ B ∧ v.ownBlock ≠ some W.heap.size ∧ W.heap.size < (W.alloc (.cells #[.int .i64 k, .int .i64 op, .slice a1 l1 c1, .slice a len cap] 57)).heap.size) :=
    ⟨hk0, WK.of_below gA (by omega), HWR.out.1.later gA, by omega, fun e => by have := (how _ e).2; omega, by simp⟩
  clear gA hk0 hlt how
  go_enter Tryz.func67, Tryz.ntmps67
  go_wp2_with fail
  refine (HS.out _ _ _ HA0.out.2.2.1 (by have := HWR.out.2.2; omega)).mono ?_
  rintro e w1 ⟨rfl, v1, hW1, hK1⟩
  have r1 : w1.heap[W.heap.size]? = some (.cells #[.int .i64 k, .int .i64 op, .slice a1 l1 c1, .slice a len cap] 57 (0, 0)) := hK1.row HA0.out.2.2.2.1 HA0.out.2.2.2.2.1 HA0.out.1
  have c3 : w1.cell? ⟨W.heap.size, 3, none⟩ = some (.slice a len cap) := (cell_of_row _ _ _ _ _ _ r1).trans rfl
  have KW1 : WK B v v1 W w1 := HA0.out.2.1.trans hK1
  have HS1 : Hid (WrS sgA w1 B v1 (L ++ [sk]) ∧ WK B v v1 W w1) := ⟨hW1, KW1⟩
  clear r1 hK1 hW1 KW1 HA0
  have q0 : (0 : Int) ≤ (len : Int) := by omega
  go_wp2
  go_loopg [20] len (fun g i wr => ∃ (n : Nat) (v' : Value), n + g = len ∧ i = .int .i64 n ∧ Hid (WrS sgA wr B v' (L ++ [sk] ++ (kids.take n).flatMap (wNet tx m)) ∧ WK B v v' W wr))
  case atStart => exact ⟨0, v1, by omega, rfl, (by simpa using HS1.out : WrS sgA w1 B v1 (L ++ [sk] ++ (kids.take 0).flatMap (wNet tx m)) ∧ WK B v v1 W w1)⟩
  case round =>
    obtain ⟨n, v', hn, rfl, HR⟩ := hrel
    have hbw : Below w0.heap.size w0 wr := HWR.out.2.1.trans (HR.out.2.below.mono hB)
    by_cases hlt : n < len
    · have i2 : (n : Int) < (len : Int) := by omega
      have i3 : (0 : Int) ≤ (n : Int) := by omega
      obtain ⟨x, hxn⟩ : ∃ x, kids[n]? = some x := ⟨_, List.getElem?_eq_getElem (by have := HLn.out; omega)⟩
      obtain ⟨b, o, cs, rfl, hcs, hrg, hR⟩ := HX.out n x hxn
      obtain ⟨y0, y1, y2, y3, y4, y5, y6, y7, rfl⟩ := hR.form
      have d0 : wr.cell? ⟨b, o + n * 4, none⟩ = some (.int .i64 y0) := (Keeps.of_below hbw 0) _ _ _ (Nat.zero_le _) (hrg 0 _ rfl)
      have d1 : wr.cell? ⟨b, o + n * 4 + 1, none⟩ = some (.int .i64 y1) := (Keeps.of_below hbw 0) _ _ _ (Nat.zero_le _) (hrg 1 _ rfl)
      have d2 : wr.cell? ⟨b, o + n * 4 + 2, none⟩ = some (.slice y2 y3 y4) := (Keeps.of_below hbw 0) _ _ _ (Nat.zero_le _) (hrg 2 _ rfl)
      have d3 : wr.cell? ⟨b, o + n * 4 + 3, none⟩ = some (.slice y5 y6 y7) := (Keeps.of_below hbw 0) _ _ _ (Nat.zero_le _) (hrg 3 _ rfl)
      have hflat : (kids.take (n + 1)).flatMap (wNet tx m) = (kids.take n).flatMap (wNet tx m) ++ wNet tx m x := by rw [List.take_add_one, hxn]; simp
      have hlen2 : ((kids.take (n + 1)).flatMap (wNet tx m)).length ≤ (kids.flatMap (wNet tx m)).length := flat_take_le _ _ _
      have gA : Below wr.heap.size wr (wr.alloc (.cells #[.int .i64 y0, .int .i64 y1, .slice y2 y3 y4, .slice y5 y6 y7] 57)) := (Below.refl _ _).alloc (Nat.le_refl _) _
      have HC : Hid (Calls Tryz.prog 67 #[.pointer (some ⟨B, 0, none⟩), .agg #[.int .i64 y0, .int .i64 y1, .slice y2 y3 y4, .slice y5 y6 y7]] (wr.alloc (.cells #[.int .i64 y0, .int .i64 y1, .slice y2 y3 y4, .slice y5 y6 y7] 57)) fun e W' => e = .returned (.tuple #[]) ∧ ∃ v'', WrS sgA W' B v'' (L ++ [sk] ++ (kids.take (n + 1)).flatMap (wNet tx m)) ∧ WK B v v'' W W') := by
        have := HK.out x _ (List.mem_of_getElem? hxn) hR (wr.alloc (.cells #[.int .i64 y0, .int .i64 y1, .slice y2 y3 y4, .slice y5 y6 y7] 57)) v' _ (hbw.trans (gA.mono hbw.size)) (HR.out.1.later gA) (by rw [hflat, List.length_append] at hlen2; have := HWR.out.2.2; simp only [List.length_append, List.length_singleton]; omega)
        refine this.mono fun e W' hh => ⟨hh.1, ?_⟩
        obtain ⟨v'', q1, q2⟩ := hh.2
        exact ⟨v'', by rw [hflat, ← List.append_assoc]; exact q1, HR.out.2.trans ((WK.of_below gA (Nat.le_of_lt HR.out.1.lt)).trans q2)⟩
      clear hrg hcs hR hxn hbw hflat hlen2 gA
      go_wp2_with fail
      refine HC.out.mono ?_
      rintro e w2 ⟨rfl, v'', q1, q2⟩
      have HQ : Hid (WrS sgA w2 B v'' (L ++ [sk] ++ (kids.take (n + 1)).flatMap (wNet tx m)) ∧ WK B v v'' W w2) := ⟨q1, q2⟩
      clear q1 q2 HC d0 d1 d2 d3
      go_wp2
      go_roundg (gk - 1)
      case measure => omega
      case rel => exact ⟨n + 1, v'', by omega, by simp, HQ⟩
    · have i2 : ¬ ((n : Int) < (len : Int)) := by omega
      have htk : kids.take n = kids := List.take_of_length_le (by have := HLn.out; omega)
      have HC : Hid (Calls Tryz.prog 68 #[.pointer (some ⟨B, 0, none⟩), .int .i64 9] wr fun e W' => e = .returned (.tuple #[]) ∧ ∃ v'', WrS sgA W' B v'' (L ++ (sk :: (kids.flatMap (wNet tx m) ++ [sgK 9]))) ∧ WK B v v'' W W') := by
        have h0 := HR.out
        rw [htk] at h0
        have := HS9.out wr v' _ h0.1 (by have := HWR.out.2.2; simp only [List.length_append, List.length_singleton]; omega)
        refine this.mono fun e W' hh => ⟨hh.1, ?_⟩
        obtain ⟨v'', q1, q2⟩ := hh.2
        exact ⟨v'', by simpa [List.append_assoc] using q1, h0.2.trans q2⟩
      clear hbw htk
      go_wp2_with fail
      refine HC.out.mono ?_
      rintro e w2 ⟨rfl, q⟩
      go_wp2
      go_end0
      exact ⟨rfl, q⟩

set_option maxHeartbeats 2000000 in
theorem net_one (tx : Int → List ArgT → ByteArray) (B : Nat) (op : Int) (a1 : Option Addr) (l1 c1 : Nat) (a2 : Option Addr) (l2 c2 : Nat) (s : ByteArray) (W : World) (v : Value) (L : List ByteArray) (h : WrS sgA W B v L) (hL : L.length ≤ 1000000)
    (HT : Hid (∀ W', Below W.heap.size W W' → Calls Tryz.prog 114 #[.agg #[.int .i64 op, .slice a1 l1 c1]] W' fun e w' => e = .returned (.string s) ∧ Below W'.heap.size W' w')) :
    Calls Tryz.prog 67 #[.pointer (some ⟨B, 0, none⟩), .agg #[.int .i64 1, .int .i64 op, .slice a1 l1 c1, .slice a2 l2 c2]] W fun e W' => e = .returned (.tuple #[]) ∧ ∃ v', WrS sgA W' B v' (L ++ [s]) ∧ WK B v v' W W' := by
  have gA : Below W.heap.size W (W.alloc (.cells #[.int .i64 1, .int .i64 op, .slice a1 l1 c1, .slice a2 l2 c2] 57)) := (Below.refl _ _).alloc (Nat.le_refl _) _
  have hE := elem_w sgA B op (.slice a1 l1 c1) rfl s L v _ (h.later gA) hL (fun W' g => HT.out W' (gA.trans (g.mono gA.size)))
  have HE : Hid (Calls Tryz.prog 69 #[.pointer (some ⟨B, 0, none⟩), .agg #[.int .i64 op, .slice a1 l1 c1]] (W.alloc (.cells #[.int .i64 1, .int .i64 op, .slice a1 l1 c1, .slice a2 l2 c2] 57)) fun e W' => e = .returned (.tuple #[]) ∧ ∃ v', WrS sgA W' B v' (L ++ [s]) ∧ WK B v v' W W') := hE.mono fun e W' hh => ⟨hh.1, by obtain ⟨v', q1, q2⟩ := hh.2; exact ⟨v', q1, (WK.of_below gA (Nat.le_of_lt h.lt)).trans q2⟩⟩
  clear hE gA h hL
  go_enter Tryz.func67, Tryz.ntmps67
  go_wp2_with fail
  refine HE.out.mono ?_
  rintro e w1 ⟨rfl, q⟩
  go_wp2
  exact bodyPost_ret (results_none rfl _ _ _) rfl ⟨rfl, q⟩

/-- The writer writes a net that is right. -/
theorem net_w (ct cl : Int → List ArgT → Bool) (tx : Int → List ArgT → ByteArray) (B : Nat) (w0 : World) (hB : w0.heap.size ≤ B)
    (HT : ∀ W', Below w0.heap.size w0 W' → ∀ op v xs, ArgsIs W' 0 v xs → Calls Tryz.prog 114 #[.agg #[.int .i64 op, v]] W' fun e w' => e = .returned (.string (tx op xs)) ∧ Below W'.heap.size W' w') :
    ∀ (m : Nat) (t : NetT) (cs : List Value), NetIs w0 0 m t cs → firstC ct cl (pNet m t) = 0 → ∀ (W : World) v L, Below w0.heap.size w0 W → WrS sgA W B v L → L.length + (wNet tx m t).length ≤ 1000000 →
      Calls Tryz.prog 67 #[.pointer (some ⟨B, 0, none⟩), .agg cs.toArray] W fun e W' => e = .returned (.tuple #[]) ∧ ∃ v', WrS sgA W' B v' (L ++ wNet tx m t) ∧ WK B v v' W W'
  | 0, _, _, h, _, _, _, _, _, _, _ => h.elim
  | m + 1, .mk k e kids, cs, hv, hz, W, v, L, hb, hW, hL => by
    obtain ⟨v1, v2, rfl, ha, hk⟩ := hv
    obtain ⟨a1, c1, rfl, hl1, _⟩ := id ha
    rw [firstC_net] at hz
    have hc : cNv k e.op e.args.length kids.length (ct e.op e.args) = 0 := by
      by_cases h0 : cNv k e.op e.args.length kids.length (ct e.op e.args) = 0
      · exact h0
      · rw [if_neg h0] at hz; exact absurd hz h0
    rw [if_pos hc] at hz
    by_cases k1 : k = 1
    · subst k1
      obtain ⟨a2, c2, rfl, hl2, _⟩ := id hk
      rw [show wNet tx (m + 1) (.mk 1 e kids) = [tx e.op e.args] from rfl] at hL ⊢
      exact net_one tx B e.op a1 _ c1 a2 _ c2 _ W v L hW (by simp at hL; omega) (fun W' g => HT W' (hb.trans (g.mono hb.size)) e.op _ e.args (argsIs_move (Keeps.of_below (hb.trans (g.mono hb.size)) 0) (Nat.le_refl _) ha))
    · have hk4 : 2 ≤ k ∧ k ≤ 4 := by
        unfold cNv at hc
        rw [if_neg k1] at hc
        by_cases hh : 2 ≤ k ∧ k ≤ 4 ∧ e.op = 0 ∧ e.args.length = 0 ∧ 0 < kids.length ∧ (k = 4 → kids.length = 1)
        · exact ⟨hh.1, hh.2.1⟩
        · rw [if_neg hh] at hc; omega
      have ew : wNet tx (m + 1) (.mk k e kids) = sgK k :: (kids.flatMap (wNet tx m) ++ [sgK 9]) := by
        show (if k = 1 then _ else _) = _
        rw [if_neg k1]
      rw [ew] at hL ⊢
      have hzk : ∀ x ∈ kids, firstC ct cl (pNet m x) = 0 := firstC_all hz
      have hS : SignOk B k (sgK k) := by
        have := signOk B k.toNat (by omega)
        rwa [Int.toNat_of_nonneg (by omega)] at this
      exact net_kids tx B k e.op (sgK k) (by simpa using k1) hS (signOk B 9 (by omega)) m a1 _ c1 v2 kids w0 hB hk W v L hb hW (by simp only [List.length_cons, List.length_append, List.length_nil] at hL; omega)
        (fun x cs hx hR W' v' L' hb' hW' hL' => net_w ct cl tx B w0 hB HT m x cs hR (hzk x hx) W' v' L' hb' hW' hL')
end Go.Proofs.YtgopfaegdlefpaaGreatDoor
