/- Writes of the program. -/
import Derived.Test.YtfhdpafaamkipaaHpe
namespace Go.Proofs.Ytfhdpafaamkipaa
open Go.RowKit
set_option linter.unusedVariables false
set_option linter.unusedSimpArgs false

theorem StA.lock {W : World} {g : Nat} {gd gd' : Int} {r : RomT} {va vb : Value} (hA : StA W g gd r va vb) : StA (W.setCell ⟨g, 0, none⟩ (.int .i32 gd')) g gd' r va vb :=
  ⟨(cs_eq hA.c0).trans rfl, (cs_eq hA.c1).trans rfl, (cs_eq hA.c2).trans rfl, (cs_eq hA.c3).trans rfl, (cs_eq hA.c4).trans rfl, (cs_eq hA.c5).trans rfl, (cs_eq hA.c6).trans rfl, (cs_eq hA.c7).trans rfl, fun o => by simpa using hA.frz o, by simpa using hA.lt⟩
theorem drop_fW {ws : List WrT} {m : Nat} (hm : m < ws.length) : ws.drop m = fW ws m :: ws.drop (m + 1) := by
  rw [List.drop_eq_getElem_cons hm]
  congr 1
  have := fW_get hm
  rw [List.getElem?_eq_getElem hm] at this
  exact Option.some.inj this
theorem neq_fn (fv : Fn) (cap : Array Value) (w : World) : (binOp .neq 1 (.func fv #[] cap) .nilFunc).run Try.prog w = .ok (.bool true) w := by
  have h : ∀ d : Nat, (Op.equalIn (d + 1) 1 (.func fv #[] cap) .nilFunc).run Try.prog w = .ok false w := fun d => by
    simp [Op.equalIn, run_underlying Try.underlying1]
  simp only [binOp]
  simp [Op.equal, Op.maxDepth, h 9999]
theorem neq_nilfn (w : World) : (binOp .neq 1 .nilFunc .nilFunc).run Try.prog w = .ok (.bool false) w := by
  have h : ∀ d : Nat, (Op.equalIn (d + 1) 1 .nilFunc .nilFunc).run Try.prog w = .ok true w := fun d => by
    simp [Op.equalIn, run_underlying Try.underlying1]
  simp only [binOp]
  simp [Op.equal, Op.maxDepth, h 9999]
open Go.MuLone in
set_option maxRecDepth 10000 in
set_option maxHeartbeats 8000000 in
theorem write_i (W : World) (g base : Nat) (r : RomT) (a : Option Addr) (n c : Nat) (ws : List WrT) (hg : base ≤ g) (hn : n = ws.length) (hn2 : n ≤ 2000000) (hw : WsA W a n (fW ws)) (hwg : 0 < n → ∀ b o, a = some ⟨b, o, none⟩ → b ≠ g)
    {xa xb : Option Addr} {na ca nb cb : Nat} (hA : StA W g 0 r (.slice xa na ca) (.slice xb nb cb)) (hO : RoO W base r xa na ca xb nb cb) (hng : ∀ k, atB xa k ∨ atB xb k → k ≠ g) :
    Calls Try.prog 50 #[.pointer (some ⟨g, 0, none⟩), .slice a n c] W fun e w' => e = .returned (.tuple #[]) ∧ StW w' g base W.heap.size W.heap.size 0 (playT r ws) ∧ Below base W w' := by
  have HN : Hid (n = ws.length) := hn
  have h0 := hA.c0
  have f0 := hA.frz 0
  have hz0 : (W.setCell ⟨g, 0, none⟩ (.int .i32 1)).heap.size = W.heap.size := by simp
  have HW : Hid (WsA (W.setCell ⟨g, 0, none⟩ (.int .i32 1)) a n (fW ws)) := by
    by_cases hn0 : n = 0
    · exact .inl hn0
    rcases hw with h | ⟨b, o, h1, h2, h3⟩
    · exact .inl h
    · have hwg := hwg (by omega)
      have c : ∀ o', (W.setCell ⟨g, 0, none⟩ (.int .i32 1)).cell? ⟨b, o', none⟩ = W.cell? ⟨b, o', none⟩ := fun o' => World.cell?_setCell_other _ _ _ _ (by intro e; exact hwg b o h1 (congrArg Addr.block e).symm)
      exact .inr ⟨b, o, h1, by rw [hz0]; exact h2, fun j hj => ⟨(c _).trans (h3 j hj).1, (c _).trans (h3 j hj).2.1, (c _).trans (h3 j hj).2.2⟩⟩
  have HA : Hid (StA (W.setCell ⟨g, 0, none⟩ (.int .i32 1)) g 1 r (.slice xa na ca) (.slice xb nb cb) ∧ RoO (W.setCell ⟨g, 0, none⟩ (.int .i32 1)) base r xa na ca xb nb cb ∧ Below base W (W.setCell ⟨g, 0, none⟩ (.int .i32 1))) := ⟨hA.lock, hO.set hng rfl rfl, (outs_set (S := fun k => base ≤ k) W g 0 _ hg).below (Below.refl _ _) (Nat.le_trans hg (Nat.le_of_lt hA.lt)) (fun _ e => e)⟩
  have HG : Hid (g < W.heap.size ∧ (∀ k, atB xa k ∨ atB xb k → k ≠ g) ∧ (∀ k, atB xa k ∨ atB xb k → k < W.heap.size)) := ⟨hA.lt, hng, fun k e => by
    rcases e with e | e
    · exact (owb_lt hO.a k e).2
    · exact (owb_lt hO.b k e).2⟩
  have HC : Hid (∀ V x, g < V.heap.size → Calls Try.prog 68 #[.pointer (some ⟨g, 0, none⟩), .agg #[.int .i64 x.kind, .int .i64 x.slot, .int .u8 x.byte]] V fun e w' => ((Nop x ∧ e = .returned .nilFunc) ∨ ∃ fv cap, e = .returned (.func fv #[] cap) ∧ Clos w' g V.heap.size w'.heap.size x ⟨.fn fv cap, #[]⟩) ∧ Below V.heap.size V w') := fun V x h => act_i g x V h
  clear hA hw hO hng hwg hn
  have hq1 := neq_fn
  have hq2 := neq_nilfn
  go_enter_defers Try.func50, Try.ntmps50
  go_wp2_with (go_at_call 66; refine (lock_free muLib ⟨g, 0, none⟩ _ h0 f0).mono ?_; rintro e w' ⟨rfl, rfl⟩)
  clear h0 f0
  generalize (W.setCell ⟨g, 0, none⟩ (.int .i32 1)) = W0 at hz0 HW HA ⊢
  refine wp_loop (fun a' wr => ∃ (k : Nat) (i : Int) (D : List Deferred) (u5 u16 u17 u18 u19 u20 u21 u22 u23 u24 u25 u26 u27 u28 : Value), (k ≤ n ∧ i = (k : Int) - 1 ∧ Hid (Dw wr g W.heap.size wr.heap.size (ws.drop k) D) ∧ Hid (Below W0.heap.size W0 wr)) ∧
      a' = { tmps := #[.pointer (some ⟨g, 0, none⟩), .slice a n c, undef, undef, .int .i64 i, u5, .pointer (some ⟨g, 0, none⟩), .pointer (some ⟨g, 0, none⟩), .pointer (some ⟨g, 0, none⟩), .tuple #[], .pointer (some ⟨g, 0, none⟩), .pointer (some ⟨g, 0, none⟩), .pointer (some ⟨g, 0, none⟩), .slice a n c, .int .i64 (n : Int), .int .i64 ((n : Int) - 1), u16, u17, u18, u19, u20, u21, u22, u23, u24, u25, u26, u27, u28], defers := D })
    (fun a' _ => (intOf (a'.tmps.getD 4 undef) + 1).toNat) ?_ ?_
  · refine ⟨n, _, _, _, _, _, _, _, _, _, _, _, _, _, _, _, _, ⟨Nat.le_refl _, rfl, ?_, Below.refl _ _⟩, rfl⟩
    have e : ws.drop n = [] := by rw [HN.out]; exact List.drop_length
    rw [e]
    exact (rfl : _ = _)
  · rintro _ wr ⟨k, i, D, u5, u16, u17, u18, u19, u20, u21, u22, u23, u24, u25, u26, u27, u28, ⟨hk, hi, HD, HB⟩, rfl⟩
    by_cases hk0 : k = 0
    · subst hk0
      have hi1 : i = -1 := by omega
      clear hi
      subst hi1
      clear HC hk
      go_wp2
      show Leaves _ _ _ _ D .returning wr
      obtain ⟨hA, hO, hb⟩ := HA.out
      obtain ⟨hgH, hng, hlt⟩ := HG.out
      have hB := HB.out
      have hz := hB.size
      rw [← hz0] at hgH hlt
      refine run_all (r := r) _ _ wr g base W.heap.size wr.heap.size hg (by omega) (by omega) (ws.drop 0) D wr HD.out (fun _ _ _ => rfl)
        ⟨xa, na, ca, xb, nb, cb, hA.later hB hgH, ⟨owb_later hO.a hB, owb_later hO.b hB, hO.d⟩, fun k e => ⟨hng k e, .inl (by have := hlt k e; omega)⟩⟩ (Nat.le_refl _) (fun W' q1 q2 => ⟨rfl, ?_, ?_⟩)
      · rw [List.drop_zero] at q1
        obtain ⟨ya, ma, da, yb, mb, db, z1, z2, z3⟩ := q1
        exact ⟨ya, ma, da, yb, mb, db, z1, z2, fun k e => ⟨(z3 k e).1, by omega⟩⟩
      · exact q2.below (hb.trans (hB.mono (by have := hA.lt; omega))) (by omega) (fun k e => e.1)
    · obtain ⟨m, rfl⟩ : ∃ m, k = m + 1 := ⟨k - 1, by omega⟩
      have hi1 : i = (m : Int) := by omega
      clear hi
      subst hi1
      have hm : m < n := by omega
      have hm' := hm
      have HE := drop_fW (ws := ws) (m := m) (by have := HN.out; omega)
      obtain ⟨b, o, rfl, hb, hcs⟩ : ∃ b o, a = some ⟨b, o, none⟩ ∧ b < W0.heap.size ∧ Ws W0 b o n (fW ws) := by
        rcases HW.out with h | h
        · omega
        · exact h
      obtain ⟨q0, q1, q2⟩ := hcs m hm
      have c0 : wr.cell? ⟨b, o + m * 3, none⟩ = _ := (HB.out.cell (p := ⟨b, o + m * 3, none⟩) hb).trans q0
      have c1 : wr.cell? ⟨b, o + m * 3 + 1, none⟩ = _ := (HB.out.cell (p := ⟨b, o + m * 3 + 1, none⟩) hb).trans q1
      have c2 : wr.cell? ⟨b, o + m * 3 + 1 + 1, none⟩ = _ := (HB.out.cell (p := ⟨b, o + m * 3 + 1 + 1, none⟩) hb).trans q2
      obtain ⟨x, hx⟩ : ∃ x, fW ws m = x := ⟨_, rfl⟩
      rw [hx] at c0 c1 c2 HE
      have HX : Hid (ws.drop m = x :: ws.drop (m + 1)) := HE
      have hB := HB.out.size
      have hgw : g < wr.heap.size := by have := HG.out.1; omega
      have HC1 : Hid (Calls Try.prog 68 #[.pointer (some ⟨g, 0, none⟩), .agg #[.int .i64 x.kind, .int .i64 x.slot, .int .u8 x.byte]] wr _) := HC.out wr x hgw
      have i1 : (m : Int) < (n : Int) := by omega
      have i2 : (0 : Int) ≤ (m : Int) := by omega
      clear HE hx q0 q1 q2 hcs hk hm HC hB
      go_wp2_with fail
      refine HC1.out.mono ?_
      rintro e w1 ⟨h, g1⟩
      have HMn : Hid (m ≤ n) := Nat.le_of_lt hm'
      have HB1 : Hid (Below W0.heap.size W0 w1) := HB.out.trans (g1.mono HB.out.size)
      have HG1 : Hid (Below wr.heap.size wr w1) := g1
      clear g1 c0 c1 c2 hm'
      rcases h with ⟨hn, rfl⟩ | ⟨fv, cap, rfl, hcl⟩
      · have HD1 : Hid (Dw w1 g W.heap.size w1.heap.size (ws.drop m) D) := by
          rw [HX.out]
          exact .inl ⟨hn, HD.out.later (fun k k1 k2 => HG1.out.block k k2) HG1.out.size⟩
        clear hn HD HC1
        go_wp2
        refine ⟨⟨m, (m : Int) - 1, D, _, _, _, _, _, _, _, _, _, _, _, _, _, _, ⟨HMn.out, rfl, HD1, HB1⟩, rfl⟩, ?_⟩
        simp [intOf]
      · have HD1 : Hid (Dw w1 g W.heap.size w1.heap.size (ws.drop m) (⟨.fn fv cap, #[]⟩ :: D)) := by
          rw [HX.out]
          exact .inr ⟨_, _, rfl, hcl.wide (by have := HB.out.size; omega) (Nat.le_refl _), HD.out.later (fun k k1 k2 => HG1.out.block k k2) HG1.out.size⟩
        clear hcl HD HC1
        go_wp2
        refine ⟨⟨m, (m : Int) - 1, _, _, _, _, _, _, _, _, _, _, _, _, _, _, _, ⟨HMn.out, rfl, HD1, HB1⟩, rfl⟩, ?_⟩
        simp [intOf]
end Go.Proofs.Ytfhdpafaamkipaa
