/- The rungs of a list: the program's SureRungs. -/
import Derived.Test.YthjbgjfihfkpcaaDoorCfM
import Derived.Test.YthjbgjfihfkpcaaDoorBe
import Derived.Deep.RegionHeld3
import Derived.Deep.Upon
namespace Go.Proofs.YthjbgjfihfkpcaaDoor
open Go.RowKit
set_option linter.unusedVariables false

/-- One more instruction in the rung that is being made. -/
theorem rung_push {w wr w4 w6 : World} {rv cv va : Value} {out : List (List InstT)} {cur : List InstT} {x : InstT} {FR FC FC' f : List Nat} {cs : List Value} {g1 cap1 : Nat}
    (hS : SSOwn wr w.heap.size FR rv out) (hE : Each (InstOwn wr w.heap.size) 3 FC' cur cs) (hFC : FC = cv.ownBlock.toList ++ FC') (hFl : ∀ b ∈ FC, w.heap.size ≤ b ∧ b < wr.heap.size) (hnd : (FR ++ FC).Nodup)
    (g : Below wr.heap.size wr w4) (hA : ArgsOwn w4 wr.heap.size f va x.one.args) (hfn : f.Nodup)
    (own6 : w6.ownsRow w.heap.size 36 3 (.slice (some ⟨g1, 0, none⟩) (cur.length + 1) cap1) (cur.length + 1) (cs ++ [.int .i64 x.code, .int .i64 x.one.op, va])) (gg6 : w4.grownBy w6 cv.ownBlock) (hat : cv.ownBlock = some g1 ∨ g1 = w4.heap.size) (hB : Below w.heap.size w wr) :
    SSOwn w6 w.heap.size FR rv out ∧ InstsOwn w6 w.heap.size (g1 :: (FC' ++ f)) (.slice (some ⟨g1, 0, none⟩) (cur.length + 1) cap1) (cur ++ [x]) ∧ (FR ++ g1 :: (FC' ++ f)).Nodup ∧ Below w.heap.size w w6 := by
  have hs := g.size
  have hw := hB.size
  have hfl := ArgsOwn.lt hA
  have hn := List.nodup_append.1 hnd
  have key := row_step (base := w.heap.size) (R := fun W => InstOwn W w.heap.size) (fun W W' row f x c hg hr h => h.move hg hr) (w := w) (w4 := w4) (w5 := w6) (v := cv) (F := FC) (f := f) (x := x) (Nat.le_refl _)
    (hE.move fun f1 x1 c1 _ h2 => h2.move (row := none) (gbb g) (fun b _ => by simp)) hFC (fun b hb => by have := hFl b hb; omega) hn.2.1 ⟨va, rfl, args_base hA hw⟩ rfl (fun b hb => by have := hfl b hb; omega) hfn (fun b hb hF => by have := hfl b hb; have := hFl b hF; omega) own6 gg6 hat (hB.trans (g.mono hw))
  have hv : ∀ b ∈ FR, some b ≠ cv.ownBlock := fun b hb e => hn.2.2 b hb b (by rw [hFC, ← e]; simp) rfl
  refine ⟨(hS.later g).move gg6 hv, key.1, ?_, key.2.2⟩
  refine List.nodup_append.2 ⟨hn.1, key.2.1, fun a ha b hb e => ?_⟩
  have hal := SSOwn.lt hS a ha
  rcases List.mem_cons.1 hb with hb | hb
  · rcases hat with h | h
    · exact hv a ha (by rw [e, hb]; exact h.symm)
    · omega
  · rcases List.mem_append.1 hb with hb | hb
    · exact hn.2.2 a ha b (by rw [hFC]; exact List.mem_append_right _ hb) e
    · have := hfl b hb; omega
/-- The rung that has been made goes behind the others. -/
theorem rung_end {w w4 w6 : World} {rv cv : Value} {out : List (List InstT)} {cur : List InstT} {FR FR' FC : List Nat} {cs : List Value} {g1 cap1 : Nat}
    (hE : Each (RungOwn w4 w.heap.size) 1 FR' out cs) (hFR : FR = rv.ownBlock.toList ++ FR') (hFl : ∀ b ∈ FR, w.heap.size ≤ b ∧ b < w4.heap.size) (hC : InstsOwn w4 w.heap.size FC cv cur) (hnd : (FR ++ FC).Nodup)
    (own6 : w6.ownsRow w.heap.size 23 1 (.slice (some ⟨g1, 0, none⟩) (out.length + 1) cap1) (out.length + 1) (cs ++ [cv])) (gg6 : w4.grownBy w6 rv.ownBlock) (hat : rv.ownBlock = some g1 ∨ g1 = w4.heap.size) (hB : Below w.heap.size w w4) :
    SSOwn w6 w.heap.size (g1 :: (FR' ++ FC)) (.slice (some ⟨g1, 0, none⟩) (out.length + 1) cap1) (out ++ [cur]) ∧ (g1 :: (FR' ++ FC)).Nodup ∧ Below w.heap.size w w6 := by
  have hn := List.nodup_append.1 hnd
  exact row_step (base := w.heap.size) (R := fun W => RungOwn W w.heap.size) (fun W W' row f x c hg hr h => h.move hg hr) (w := w) (w4 := w4) (w5 := w6) (v := rv) (F := FR) (f := FC) (x := cur) (c := [cv]) (Nat.le_refl _)
    hE hFR hFl hn.1 ⟨cv, rfl, hC⟩ rfl (InstsOwn.lt hC) hn.2.1 (fun b hb hF => hn.2.2 b hF b hb rfl) own6 gg6 hat hB
theorem chk_zero : ∀ (xs : List InstT) (n : Nat) (r : Rn), (chk xs n r).1 = 0 → chk xs n r = (0, 0)
  | [], n, r, h => by
    rw [chk] at h ⊢
    split
    · rfl
    · next hb => rw [if_neg hb] at h; simp at h
  | x :: xs, n, r, h => by
    rw [chk] at h ⊢
    split
    · next h0 => rw [if_pos h0] at h; exact chk_zero xs _ _ h
    · next h0 => rw [if_neg h0] at h; exact absurd h h0
theorem check_zero {xs : List InstT} (h : (checkT xs).1 = 0) : checkT xs = (0, 0) := by
  unfold checkT at h ⊢
  split
  · next hk => rw [if_pos hk] at h; simp at h
  · next hk => rw [if_neg hk] at h; exact chk_zero _ _ _ h
theorem below_undrew' {W w' : World} (g : Below W.drew.heap.size W.drew w') : Below W.heap.size W w' := ⟨g.os, g.tape, g.output, g.size, g.block⟩
theorem three_free {X : World} {B : Nat} {T : TypeId} {a b c : Value} {w3 : World} {W : World} (g3 : Below W.heap.size W w3) (kA : X.heap[B]? = some (.cells #[a, b, c] T (0, 0))) (hX : W.heap = X.heap := by rfl) :
    w3.cell? ⟨B, 0, none⟩ = some a ∧ w3.cell? ⟨B, 1, none⟩ = some b ∧ w3.cell? ⟨B, 2, none⟩ = some c ∧ w3.frozen? ⟨B, 0, none⟩ = false ∧ w3.frozen? ⟨B, 1, none⟩ = false ∧ w3.frozen? ⟨B, 2, none⟩ = false := by
  have k3 : w3.heap[B]? = some (.cells #[a, b, c] T (0, 0)) := by
    have h0 : W.heap[B]? = some (.cells #[a, b, c] T (0, 0)) := by rw [hX]; exact kA
    exact (g3.block _ (Array.getElem?_eq_some_iff.1 h0).1).trans h0
  exact ⟨(cell_of_row _ _ _ _ _ _ k3).trans rfl, (cell_of_row _ _ _ _ _ _ k3).trans rfl, (cell_of_row _ _ _ _ _ _ k3).trans rfl, by simp [World.frozen?, k3], by simp [World.frozen?, k3], by simp [World.frozen?, k3]⟩

set_option maxRecDepth 10000 in
set_option maxHeartbeats 8000000 in
theorem rungs_i (v : Value) (xs : List InstT) (w : World) (lo : Nat) (hv : InstsIs w lo v xs) (hsz : xs.length + (xs.map wI).sum ≤ 1048576) (hT : KT w) (hL : LT w) :
    Calls Tryd.prog 5 #[v] w fun e w' => RungsR xs w e w' := by
  have hinfo : (Tryd.prog.info? 36).map (fun i => (i.zero, i.size, i.bytes)) = some (some (.agg #[.int .i64 0, .int .i64 0, .slice none 0 0]), 3, 40) := by kernel_rfl
  obtain ⟨ti, hi, hzz⟩ := Option.map_eq_some_iff.1 hinfo
  simp only [Prod.mk.injEq] at hzz
  obtain ⟨hz0, hz1, hz2⟩ := hzz
  have HI : Hid (Tryd.prog.info? 36 = some ti ∧ ti.zero = some (.agg #[.int .i64 0, .int .i64 0, .slice none 0 0]) ∧ ti.size = 3 ∧ ti.bytes = 40) := ⟨hi, hz0, hz1, hz2⟩
  clear hi hz0 hz1 hz2 hinfo
  have hinfo2 : (Tryd.prog.info? 23).map (fun i => (i.zero, i.size, i.bytes)) = some (some (.slice none 0 0), 1, 24) := by kernel_rfl
  obtain ⟨tj, hi, hzz⟩ := Option.map_eq_some_iff.1 hinfo2
  simp only [Prod.mk.injEq] at hzz
  obtain ⟨hz0, hz1, hz2⟩ := hzz
  have HJ : Hid (Tryd.prog.info? 23 = some tj ∧ tj.zero = some (.slice none 0 0) ∧ tj.size = 1 ∧ tj.bytes = 24) := ⟨hi, hz0, hz1, hz2⟩
  clear hi hz0 hz1 hz2 hinfo2
  have HCk : Hid (Calls Tryd.prog 7 #[v] w fun e w' => CheckR xs w e w') := check_i v xs w lo hv (by omega) hT hL
  obtain ⟨a, cap, rfl, hl, hx⟩ := hv
  have HX : Hid (∀ j x, xs[j]? = some x → ∃ b o cs, a = some ⟨b, o, none⟩ ∧ lo ≤ b ∧ cs.length = 3 ∧ w.rangeAt b (o + j * 3) cs ∧ InstIs w lo x cs) := hx
  have HSz : Hid (∀ x ∈ xs, x.one.args.length ≤ 1048576) := fun x hx => by have h1 := sum_mem wI xs x hx; have h2 : wI x = x.one.args.length := rfl; omega
  obtain ⟨len, HL⟩ : ∃ len, Hid (len = xs.length) := ⟨_, rfl⟩
  clear hsz hT hL hx
  by_cases hck : checkT xs = (0, 0)
  case neg =>
    have hc0 : (checkT xs).1 ≠ 0 := fun h => hck (check_zero h)
    have HF : Hid (∀ w', Below w.heap.size w w' → RungsR xs w (.returned (.slice none 0 0)) w') := fun w' g => ⟨[], none, 0, 0, rfl, by rw [show rungsT xs = [] from if_neg hck]; exact RowOwn.nil _ _ _ _ _, List.nodup_nil, g⟩
    rw [← HL.out] at hl HCk ⊢
    obtain ⟨c, Hc⟩ : ∃ c, Hid (c = (checkT xs).1) := ⟨_, rfl⟩
    obtain ⟨at', Ha⟩ : ∃ c, Hid (c = (checkT xs).2) := ⟨_, rfl⟩
    rw [← Hc.out] at hc0
    have hc1 : (c == 0) = false := by simp [hc0]
    have HCk2 : Hid (Calls Tryd.prog 7 #[.slice a len cap] w fun e w' => e = .returned (.agg #[.int .i64 c, .int .i64 at']) ∧ Below w.heap.size w w') := by rw [Hc.out, Ha.out]; exact HCk.out
    clear HX hck HCk hc0
    go_enter Tryd.func5, Tryd.ntmps5
    go_wp2_with fail
    refine HCk2.out.mono ?_
    rintro e w1 ⟨rfl, g1⟩
    have HF1 : Hid (RungsR xs w (.returned (.slice none 0 0)) w1) := HF.out w1 g1
    clear HF g1
    go_wp2
    go_ret
    exact HF1.out
  have hlen := check_len hck
  have HRg : Hid (rungsT xs = rg (xs.drop 0) [] []) := if_pos hck
  have HCk2 : Hid (Calls Tryd.prog 7 #[.slice a xs.length cap] w fun e w' => e = .returned (.agg #[.int .i64 0, .int .i64 0]) ∧ Below w.heap.size w w') := HCk.out.mono fun e w' h => ⟨by rw [h.1, hck], h.2⟩
  rw [← HL.out] at hl HCk2 hlen ⊢
  clear hck HCk
  go_enter Tryd.func5, Tryd.ntmps5
  go_wp2_with fail
  refine HCk2.out.mono ?_
  rintro e w1 ⟨rfl, g1⟩
  have HB1 : Hid (Below w.heap.size w w1) := g1
  clear g1 HCk2
  go_wp2
  go_loopg [3, 4, 13] len (fun gg rv cv i wr => ∃ (n rm rcp cm ccp : Nat) (ra ca : Option Addr) (out : List (List InstT)) (cur : List InstT) (FR FC : List Nat), n + gg = len ∧ i = .int .i64 n ∧ rv = .slice ra rm rcp ∧ cv = .slice ca cm ccp ∧ rm ≤ n ∧ cm ≤ n ∧ Hid (rm = out.length ∧ cm = cur.length ∧ SSOwn wr w.heap.size FR (.slice ra rm rcp) out ∧ InstsOwn wr w.heap.size FC (.slice ca cm ccp) cur ∧ (FR ++ FC).Nodup ∧ rungsT xs = rg (xs.drop n) cur out ∧ Below w.heap.size w wr))
  case atStart => exact ⟨0, 0, 0, 0, 0, none, none, [], [], [], [], by omega, rfl, rfl, rfl, by omega, by omega, rfl, rfl, RowOwn.nil _ _ _ _ _, RowOwn.nil _ _ _ _ _, by simp, HRg.out, HB1.out⟩
  case round =>
    clear HRg HB1
    obtain ⟨n, rm, rcp, cm, ccp, ra, ca, out, cur, FR, FC, hn, rfl, rfl, rfl, hrm, hcm, HS⟩ := hrel
    by_cases hlt : n < len
    · have i1 : (n : Int) < (len : Int) := by omega
      have i3 : (0 : Int) ≤ (n : Int) := by omega
      obtain ⟨x, hxn⟩ : ∃ x, xs[n]? = some x := ⟨_, List.getElem?_eq_getElem (by have := HL.out; omega)⟩
      obtain ⟨bk, o, cs, rfl, hlo, hcs, hrg, u, rfl, hR⟩ := HX.out n x hxn
      have hb := HS.out.2.2.2.2.2.2
      have HLd : Hid ((loadVar 36 ⟨bk, o + n * 3, none⟩).run Tryd.prog wr = .ok (.agg #[.int .i64 x.code, .int .i64 x.one.op, u]) wr) := run_loadVar_mid wr bk (o + n * 3) 36 [.int .i64 x.code, .int .i64 x.one.op, u] _ (fun i c hi => (Keeps.of_below hb 0) _ _ _ (Nat.zero_le _) (hrg i c hi)) Tryd.underlying36 rfl (by rw [hcs]; kernel_rfl)
      have hR0 := hR
      obtain ⟨ua, uc, rfl, _, _⟩ := hR
      obtain ⟨ul, Hul⟩ : ∃ l, Hid (l = x.one.args.length) := ⟨_, rfl⟩
      obtain ⟨c, Hc⟩ : ∃ c, Hid (c = x.code) := ⟨_, rfl⟩
      obtain ⟨op, Hop⟩ : ∃ c, Hid (c = x.one.op) := ⟨_, rfl⟩
      rw [← Hul.out, ← Hc.out, ← Hop.out] at HLd
      rw [← Hul.out] at hR0
      have HNe : Hid (∀ W, Below w.heap.size w W → Calls Tryd.prog 10 #[.agg #[.int .i64 op, .slice ua ul uc]] W fun e w' => ∃ (a : Option Addr) (cp : Nat), e = .returned (.agg #[.int .i64 op, .slice a ul cp]) ∧ ArgsOwn w' W.heap.size (Value.slice a ul cp).ownBlock.toList (.slice a ul cp) x.one.args ∧ Below W.heap.size W w') := fun W g => nelem_i op ua ul uc lo x.one.args Hul.out W (argsIs_move (Keeps.of_below g lo) (Nat.le_refl _) hR0) (HSz.out x (List.mem_of_getElem? hxn))
      obtain ⟨ccs, FC', hE, hOw, hFC⟩ := id HS.out.2.2.2.1
      have hFCl := InstsOwn.lt HS.out.2.2.2.1
      have kA : (wr.alloc (.cells #[.int .i64 c, .int .i64 op, .slice ua ul uc] 36)).heap[wr.heap.size]? = some (.cells #[.int .i64 c, .int .i64 op, .slice ua ul uc] 36 (0, 0)) := heap_alloc_last wr _
      have bA : Below w.heap.size w (wr.alloc (.cells #[.int .i64 c, .int .i64 op, .slice ua ul uc] 36)) := hb.alloc hb.size _
      have gA : Below wr.heap.size wr (wr.alloc (.cells #[.int .i64 c, .int .i64 op, .slice ua ul uc] 36)) := (Below.refl _ _).alloc (Nat.le_refl _) _
      have HE : Hid (Each (InstOwn wr w.heap.size) 3 FC' cur ccs ∧ FC = (Value.slice ca cm ccp).ownBlock.toList ++ FC' ∧ (∀ b ∈ FC, w.heap.size ≤ b ∧ b < wr.heap.size)) := ⟨hE, hFC, hFCl⟩
      have HOw : Hid (wr.ownsRow w.heap.size 36 3 (.slice ca cm ccp) cm ccs) := by show wr.ownsRow _ _ _ _ _ _; have h0 := hOw; rwa [← HS.out.2.1] at h0
      have HX5 : Hid (∀ w5, Below wr.heap.size (wr.alloc (.cells #[.int .i64 c, .int .i64 op, .slice ua ul uc] 36)) w5 → ∀ a5 cp5, (w5.alloc (.cells #[.int .i64 c, .int .i64 op, .slice a5 ul cp5] 36)).ownsRow w.heap.size 36 3 (.slice ca cm ccp) cm ccs ∧ (∀ (q : Nat) (v : Value), ([.int .i64 c, .int .i64 op, .slice a5 ul cp5] : List Value)[q]? = some v → (w5.alloc (.cells #[.int .i64 c, .int .i64 op, .slice a5 ul cp5] 36)).cell? ((⟨w5.heap.size, 0, none⟩ : Addr).add q) = some v) ∧ w.heap.size ≤ w5.heap.size) := by
        intro w5 g5 a5 cp5
        have G5 : Below wr.heap.size wr w5 := gA.trans g5
        refine ⟨World.ownsRow.alloc (ownl HOw.out G5) _, ?_, by have := G5.size; have := hb.size; omega⟩
        intro q v hq
        match q with
        | 0 => simp at hq; subst hq; simp [Addr.add]
        | 1 => simp at hq; subst hq; simp [Addr.add]
        | 2 => simp at hq; subst hq; simp [Addr.add]
        | (j + 3) => simp at hq
      have HY : Hid (∀ w5 a5 cp5 g1 cap1 w6, Below (wr.alloc (.cells #[.int .i64 c, .int .i64 op, .slice ua ul uc] 36)).heap.size (wr.alloc (.cells #[.int .i64 c, .int .i64 op, .slice ua ul uc] 36)) w5 → ArgsOwn w5 (wr.alloc (.cells #[.int .i64 c, .int .i64 op, .slice ua ul uc] 36)).heap.size (Value.slice a5 ul cp5).ownBlock.toList (.slice a5 ul cp5) x.one.args →
          w6.ownsRow w.heap.size 36 3 (.slice (some ⟨g1, 0, none⟩) (cm + 1) cap1) (cm + 1) (ccs ++ [.int .i64 c, .int .i64 op, .slice a5 ul cp5]) → (w5.alloc (.cells #[.int .i64 c, .int .i64 op, .slice a5 ul cp5] 36)).grownBy w6 (Value.slice ca cm ccp).ownBlock → ((Value.slice ca cm ccp).ownBlock = some g1 ∨ g1 = (w5.alloc (.cells #[.int .i64 c, .int .i64 op, .slice a5 ul cp5] 36)).heap.size) →
          (w6.cell? ⟨wr.heap.size, 0, none⟩ = some (.int .i64 c) ∧ w6.cell? ⟨wr.heap.size, 1, none⟩ = some (.int .i64 op) ∧ w6.cell? ⟨wr.heap.size, 2, none⟩ = some (.slice ua ul uc)) ∧ ∃ FC2, (cm + 1 = (cur ++ [x]).length ∧ SSOwn w6 w.heap.size FR (.slice ra rm rcp) out ∧ InstsOwn w6 w.heap.size FC2 (.slice (some ⟨g1, 0, none⟩) (cm + 1) cap1) (cur ++ [x]) ∧ (FR ++ FC2).Nodup ∧ Below w.heap.size w w6)) := by
        intro w5 a5 cp5 g1 cap1 w6 g5 hA5 own6 gg6 hat6
        have G5 : Below wr.heap.size wr w5 := gA.trans (g5.mono (by simp))
        have G4 : Below wr.heap.size wr (w5.alloc (.cells #[.int .i64 c, .int .i64 op, .slice a5 ul cp5] 36)) := G5.alloc G5.size _
        have hcl := HS.out.2.1
        have o6 := own6
        rw [hcl, Hc.out, Hop.out] at o6
        have hA4 : ArgsOwn (w5.alloc (.cells #[.int .i64 c, .int .i64 op, .slice a5 ul cp5] 36)) wr.heap.size (Value.slice a5 ul cp5).ownBlock.toList (.slice a5 ul cp5) x.one.args := args_base (ArgsOwn.move hA5 (row := none) (gbb ((Below.refl _ _).alloc (Nat.le_refl _) _)) (fun b _ => by simp)) (by simp)
        have key := rung_push (x := x) HS.out.2.2.1 HE.out.1 HE.out.2.1 HE.out.2.2 HS.out.2.2.2.2.1 G4 hA4 (by cases (Value.slice a5 ul cp5).ownBlock <;> simp) o6 gg6 hat6 hb
        refine ⟨?_, _, by rw [hcl]; simp, key.1, by rw [hcl]; exact key.2.1, key.2.2.1, key.2.2.2⟩
        have k4 : (w5.alloc (.cells #[.int .i64 c, .int .i64 op, .slice a5 ul cp5] 36)).heap[wr.heap.size]? = some (.cells #[.int .i64 c, .int .i64 op, .slice ua ul uc] 36 (0, 0)) := (heap_alloc_old _ _ (h := by have := g5.size; simp at this; omega)).trans ((g5.block _ (by simp)).trans kA)
        have k6 : w6.heap[wr.heap.size]? = some (.cells #[.int .i64 c, .int .i64 op, .slice ua ul uc] 36 (0, 0)) := (gg6.block _ (Array.getElem?_eq_some_iff.1 k4).1 (fun e => by have := HE.out.2.2 wr.heap.size (by rw [HE.out.2.1, ← e]; simp); omega)).trans k4
        exact ⟨(cell_of_row _ _ _ _ _ _ k6).trans rfl, (cell_of_row _ _ _ _ _ _ k6).trans rfl, (cell_of_row _ _ _ _ _ _ k6).trans rfl⟩
      have HCo : Hid ((c = 11 → rungsT xs = rg (xs.drop (n + 1)) [] (out ++ [cur ++ [x]])) ∧ (c ≠ 11 → rungsT xs = rg (xs.drop (n + 1)) (cur ++ [x]) out)) := ⟨fun h => by rw [HS.out.2.2.2.2.2.1]; exact rg_end hxn (by rw [← Hc.out]; exact h), fun h => by rw [HS.out.2.2.2.2.2.1]; exact rg_go hxn (by rw [← Hc.out]; exact h)⟩
      have HRm : Hid (rm = out.length) := HS.out.1
      obtain ⟨c40, c41, c42, _, _, _⟩ := three_free (X := wr.alloc (.cells #[.int .i64 c, .int .i64 op, .slice ua ul uc] 36)) (Below.refl _ _) kA
      clear hb hrg hcs hlo hR0 hE hOw hFC hFCl HS HX HE HOw gA
      go_wp2_with (first | (refine wpL_load rfl 36 _ rfl _ _ rfl _ HLd.out ?_) | fail)
      go_region_held3 (fun w' => w'.cell? ⟨wr.heap.size, 0, none⟩ = some (.int .i64 c) ∧ w'.cell? ⟨wr.heap.size, 1, none⟩ = some (.int .i64 op) ∧ w'.cell? ⟨wr.heap.size, 2, none⟩ = some (.slice ua ul uc))
        (first | go_keep | exact ⟨c40, c41, c42⟩ | exact ⟨d40, d41, d42⟩ | exact ⟨e40, e41, e42⟩ | (simpa using ⟨d40, d41, d42⟩))
        (first
          | (go_at_call 10; refine (HNe.out _ (by first | exact bA | exact bA.drew)).mono ?_; rintro e w5 ⟨a5, cp5, rfl, hA5, g5⟩; obtain ⟨d40, d41, d42, _, _, _⟩ := three_free g5 kA; have G5 := below_undrew' g5; obtain ⟨own5, news5, hs5⟩ := HX5.out w5 (G5.mono (by simp)) a5 cp5)
          | (refine step_append_lies _ (by rfl) (.tmp 17) (.tmp 24) 23 (by rfl) w.heap.size 36 ti (.agg #[.int .i64 0, .int .i64 0, .slice none 0 0]) 3 40 Tryd.underlying23 HI.out.1 HI.out.2.1 HI.out.2.2.1 HI.out.2.2.2 (by rfl) (by decide) (.slice ca cm ccp) cm ccs (by rfl) own5 ⟨w5.heap.size, 0, none⟩ 1 1 [.int .i64 c, .int .i64 op, .slice a5 ul cp5] (by rfl) (by rfl) news5 (by intro v hu; simp at hu; rcases hu with rfl | rfl | rfl <;> rfl) (by omega) (by unfold maxLen; omega) (by omega) (by simp; omega) _ rfl ?_; intro g1 cap1 w6 own6 gg6 hat6 hlt6; obtain ⟨⟨e40, e41, e42⟩, FC2, hY⟩ := HY.out w5 a5 cp5 g1 cap1 w6 G5 hA5 own6 gg6 hat6; have HYY : Hid (cm + 1 = (cur ++ [x]).length ∧ SSOwn w6 w.heap.size FR (.slice ra rm rcp) out ∧ InstsOwn w6 w.heap.size FC2 (.slice (some ⟨g1, 0, none⟩) (cm + 1) cap1) (cur ++ [x]) ∧ (FR ++ FC2).Nodup ∧ Below w.heap.size w w6) := hY; clear hY own6 gg6 hat6 hlt6)
          | fail)
      clear c40 c41 c42 d40 d41 d42 e41 e42 own5 news5 hs5 HX5 HY HNe HLd G5 g5 hA5 kA bA
      by_cases hc11 : c = 11
      · have HRg2 : Hid (rungsT xs = rg (xs.drop (n + 1)) [] (out ++ [cur ++ [x]])) := HCo.out.1 hc11
        have e11 : (c == 11) = true := by simp [hc11]
        obtain ⟨rcs, FR', hE, hOw, hFR⟩ := id HYY.out.2.1
        have hFRl := SSOwn.lt HYY.out.2.1
        have own7 : (w6.alloc (.cells #[.slice (some ⟨g1, 0, none⟩) (cm + 1) cap1] 23)).ownsRow w.heap.size 23 1 (.slice ra rm rcp) rm rcs := by have h0 := World.ownsRow.alloc hOw (.cells #[.slice (some ⟨g1, 0, none⟩) (cm + 1) cap1] 23); rwa [← HRm.out] at h0
        have news7 : ∀ (q : Nat) (v : Value), ([.slice (some ⟨g1, 0, none⟩) (cm + 1) cap1] : List Value)[q]? = some v → (w6.alloc (.cells #[.slice (some ⟨g1, 0, none⟩) (cm + 1) cap1] 23)).cell? ((⟨w6.heap.size, 0, none⟩ : Addr).add q) = some v := by
          intro q v hq
          match q with
          | 0 => simp at hq; subst hq; simp [Addr.add]
          | (j + 1) => simp at hq
        have hs6 : w.heap.size ≤ w6.heap.size := HYY.out.2.2.2.2.size
        have HZ : Hid (∀ g2 cap2 w8, w8.ownsRow w.heap.size 23 1 (.slice (some ⟨g2, 0, none⟩) (rm + 1) cap2) (rm + 1) (rcs ++ [.slice (some ⟨g1, 0, none⟩) (cm + 1) cap1]) → (w6.alloc (.cells #[.slice (some ⟨g1, 0, none⟩) (cm + 1) cap1] 23)).grownBy w8 (Value.slice ra rm rcp).ownBlock → ((Value.slice ra rm rcp).ownBlock = some g2 ∨ g2 = (w6.alloc (.cells #[.slice (some ⟨g1, 0, none⟩) (cm + 1) cap1] 23)).heap.size) → ∃ FR2, (rm + 1 = (out ++ [cur ++ [x]]).length ∧ SSOwn w8 w.heap.size FR2 (.slice (some ⟨g2, 0, none⟩) (rm + 1) cap2) (out ++ [cur ++ [x]]) ∧ FR2.Nodup ∧ Below w.heap.size w w8)) := by
          intro g2 cap2 w8 o8 gg8 hat8
          have gA : Below w6.heap.size w6 (w6.alloc (.cells #[.slice (some ⟨g1, 0, none⟩) (cm + 1) cap1] 23)) := (Below.refl _ _).alloc (Nat.le_refl _) _
          have hrl := HRm.out
          rw [hrl] at o8
          have key := rung_end (cv := .slice (some ⟨g1, 0, none⟩) (cm + 1) cap1) (cur := cur ++ [x]) (hE.move fun f1 x1 c1 _ h2 => h2.move (row := none) (gbb gA) (fun b _ => by simp)) hFR (fun b hb => by have := hFRl b hb; simp; omega) (HYY.out.2.2.1.later gA) HYY.out.2.2.2.1 o8 gg8 hat8 (HYY.out.2.2.2.2.alloc hs6 _)
          exact ⟨_, by rw [hrl]; simp, by rw [hrl]; exact key.1, key.2.1, key.2.2⟩
        clear hc11 hE hOw hFR hFRl HCo
        go_wp2_with (at_builtin; refine wpList_append_lies _ rfl _ _ 25 rfl w.heap.size 23 tj (.slice none 0 0) 1 24 Tryd.underlying25 HJ.out.1 HJ.out.2.1 HJ.out.2.2.1 HJ.out.2.2.2 rfl (by decide) _ rm rcs rfl own7 ⟨w6.heap.size, 0, none⟩ 1 1 [.slice (some ⟨g1, 0, none⟩) (cm + 1) cap1] rfl rfl news7 ?c2 (by omega) ?c3 ?c4 ?c5 _ rfl ?_)
        case c2 => intro v hu; simp at hu; rw [hu]; rfl
        case c3 => unfold maxLen; omega
        case c4 => omega
        case c5 => simp; omega
        intro g2 cap2 w8 own8 gg8 hat8 hlt8
        obtain ⟨FR2, hz⟩ := HZ.out g2 cap2 w8 own8 gg8 (by simpa using hat8)
        have HZZ : Hid (rm + 1 = (out ++ [cur ++ [x]]).length ∧ 0 = ([] : List InstT).length ∧ SSOwn w8 w.heap.size FR2 (.slice (some ⟨g2, 0, none⟩) (rm + 1) cap2) (out ++ [cur ++ [x]]) ∧ InstsOwn w8 w.heap.size [] (.slice none 0 0) [] ∧ (FR2 ++ []).Nodup ∧ rungsT xs = rg (xs.drop (n + 1)) [] (out ++ [cur ++ [x]]) ∧ Below w.heap.size w w8) := ⟨hz.1, rfl, hz.2.1, RowOwn.nil _ _ _ _ _, by simpa using hz.2.2.1, HRg2.out, hz.2.2.2⟩
        clear own7 news7 own8 gg8 hat8 hlt8 hz HZ HYY
        go_wp2
        go_roundg (gk - 1)
        case measure => omega
        case rel => exact ⟨n + 1, rm + 1, cap2, 0, 0, some ⟨g2, 0, none⟩, none, out ++ [cur ++ [x]], [], FR2, [], by omega, by simp, rfl, rfl, by omega, by omega, HZZ⟩
      · have e11 : (c == 11) = false := by simp [hc11]
        have HZZ : Hid (rm = out.length ∧ cm + 1 = (cur ++ [x]).length ∧ SSOwn w6 w.heap.size FR (.slice ra rm rcp) out ∧ InstsOwn w6 w.heap.size FC2 (.slice (some ⟨g1, 0, none⟩) (cm + 1) cap1) (cur ++ [x]) ∧ (FR ++ FC2).Nodup ∧ rungsT xs = rg (xs.drop (n + 1)) (cur ++ [x]) out ∧ Below w.heap.size w w6) := ⟨HRm.out, HYY.out.1, HYY.out.2.1, HYY.out.2.2.1, HYY.out.2.2.2.1, HCo.out.2 hc11, HYY.out.2.2.2.2⟩
        clear hc11 HYY HCo
        go_wp2
        go_roundg (gk - 1)
        case measure => omega
        case rel => exact ⟨n + 1, rm, rcp, cm + 1, cap1, ra, some ⟨g1, 0, none⟩, out, cur ++ [x], FR, FC2, by omega, by simp, rfl, rfl, by omega, by omega, HZZ⟩
    · have i1 : ¬ ((n : Int) < (len : Int)) := by omega
      have HF : Hid (RungsR xs w (.returned (.slice ra rm rcp)) wr) := by
        obtain ⟨h1, h2, h3, h4, h5, h6, h7⟩ := HS.out
        refine ⟨FR, ra, rm, rcp, rfl, ?_, (List.nodup_append.1 h5).1, h7⟩
        rw [h6, rg_nil (by rw [← HL.out]; omega)]
        exact h3
      clear HS
      go_wp2
      go_ret
      exact HF.out
end Go.Proofs.YthjbgjfihfkpcaaDoor
/- A list in new memory: the specification's l12Copy. -/
namespace Go.Proofs.YthjbgjfihfkpcaaDoor
open Go.RowKit
set_option linter.unusedVariables false

section
variable {P : Program} {w : World}
/-- An append whose run is known, at a step of a region that draws. -/
theorem step_app_run {ops : Array Oper} {o : Oper} {a : Act} {K : Act → World → Prop} {Q : Exit → Act → World → Prop} {E : Prop} (hgd : o.guard = none) (s x : Operand) (t : TypeId)
    (ho : o.op = .call { callee := .builtin .append, args := #[s, x], argTypes := #[t, t] }) (v y : Value) (hs : a.eval s = v) (hx : a.eval x = y) (v' : Value) (w' : World)
    (hr : ∀ ty, (Builtin.append_ #[t, t] ty #[v, y]).run P w = .ok v' w') (h : K (a.put o.dst v') w') :
    if Region.wanted o (yielded ops a.tmps) = true then Oper.wp P o a w K Q else E := by
  have hw : Region.wanted o (yielded ops a.tmps) = true := by simp [Region.wanted, hgd]
  rw [if_pos hw]
  unfold Oper.wp execOp
  simp only [ho, resolve, invoke, builtin, Sem.run_bind, Sem.run_pure, Result.andThen_ok, List.map_toArray, List.map_cons, List.map_nil, hs, hx, hr]
  exact h
end

theorem avs_at {w : World} {lo : Nat} {a : Option Addr} {n cp : Nat} {xs : List ArgT} (h : RowIs w lo 3 ArgIs (.slice a n cp) xs) (h0 : 0 < xs.length) : ∃ b o, a = some ⟨b, o, none⟩ ∧ b < w.heap.size ∧ ∀ (j : Nat) (u : Value), (avs xs)[j]? = some u → w.cell? ⟨b, o + j, none⟩ = some u := by
  obtain ⟨a', cp', e, _, hx⟩ := h
  cases e
  obtain ⟨b, o, cs, rfl, _, _, hr, hR⟩ := hx 0 _ (List.getElem?_eq_getElem h0)
  have hR : cs = _ := hR
  refine ⟨b, o, rfl, World.block_lt_of_cell? _ _ (hr 0 _ (by rw [hR]; rfl)), ?_⟩
  have key : ∀ (ys : List ArgT) (k : Nat), (∀ i y, ys[i]? = some y → w.rangeAt b (o + (k + i) * 3) [.int .i64 y.1, .int .i64 y.2.1, .int .i64 y.2.2]) → ∀ (j : Nat) (u : Value), (avs ys)[j]? = some u → w.cell? ⟨b, o + k * 3 + j, none⟩ = some u := by
    intro ys
    induction ys with
    | nil => intro k _ j u hu; simp [avs] at hu
    | cons y ys ih =>
      intro k hk j u hu
      have hav : avs (y :: ys) = [.int .i64 y.1, .int .i64 y.2.1, .int .i64 y.2.2] ++ avs ys := rfl
      rw [hav] at hu
      by_cases hj : j < 3
      · rw [List.getElem?_append_left (by simpa using hj)] at hu
        have := hk 0 y rfl j u hu
        simpa using this
      · rw [List.getElem?_append_right (by simp; omega)] at hu
        have := ih (k + 1) (fun i y' hy => by have := hk (i + 1) y' hy; rwa [show k + (i + 1) = k + 1 + i by omega] at this) (j - 3) u (by simpa using hu)
        rwa [show o + (k + 1) * 3 + (j - 3) = o + k * 3 + j by omega] at this
  intro j u hu
  have := key xs 0 (fun i y hy => by
    obtain ⟨b', o', cs', e, _, _, hr', hR'⟩ := hx i y hy
    simp only [Option.some.injEq, Addr.mk.injEq] at e
    obtain ⟨rfl, rfl, _⟩ := e
    have hR' : cs' = _ := hR'
    rw [hR'] at hr'
    simpa using hr') j u hu
  simpa using this

/-- The operands behind an empty row of one's own. -/
theorem app_args (W : World) (base lo : Nat) (ua : Option Addr) (ul uc : Nat) (xs : List ArgT) (hul : ul = xs.length) (hbig : ul ≤ 1048576) (hb : base ≤ W.heap.size) (hv : ArgsIs W lo (.slice ua ul uc) xs) :
    ∃ (g cap : Nat) (w' : World), (∀ ty, (Builtin.append_ #[32, 32] ty #[.slice (some ⟨W.heap.size, 0, none⟩) 0 0, .slice ua ul uc]).run Tryd.prog (W.alloc (.cells #[] 52)) = .ok (.slice (some ⟨g, 0, none⟩) ul cap) w') ∧ w'.ownsRow base 52 3 (.slice (some ⟨g, 0, none⟩) ul cap) ul (avs xs) ∧ (W.alloc (.cells #[] 52)).grownBy w' (some W.heap.size) ∧ W.heap.size ≤ g := by
  have hinfo : (Tryd.prog.info? 52).map (fun i => (i.zero, i.size, i.bytes)) = some (some (.agg #[.int .i64 0, .int .i64 0, .int .i64 0]), 3, 24) := by kernel_rfl
  obtain ⟨ti, hi, hzz⟩ := Option.map_eq_some_iff.1 hinfo
  simp only [Prod.mk.injEq] at hzz
  obtain ⟨hz0, hz1, hz2⟩ := hzz
  have own0 : (W.alloc (.cells #[] 52)).ownsRow base 52 3 (.slice (some ⟨W.heap.size, 0, none⟩) 0 0) 0 [] := World.ownsRow_made (base := base) (e := 52) (size := 3) W #[] 0 hb (by unfold maxLen; omega) rfl
  by_cases h0 : 0 < xs.length
  · obtain ⟨b, o, rfl, hbl, hc⟩ := avs_at hv h0
    have hav := avs_len xs
    have hrun := fun ty => run_append_lies (P := Tryd.prog) (W.alloc (.cells #[] 52)) 32 ty base 52 ti (.agg #[.int .i64 0, .int .i64 0, .int .i64 0]) 3 24 Tryd.underlying32 hi hz0 hz1 hz2 rfl (by decide) (.slice (some ⟨W.heap.size, 0, none⟩) 0 0) 0 [] own0 ⟨b, o, none⟩ ul uc (avs xs) (by rw [hav, hul]) (fun j u hu => by
      rw [show (⟨b, o, none⟩ : Addr).add j = ⟨b, o + j, none⟩ from Addr.add_mid b o j]
      exact (Keeps.of_below ((Below.refl _ _).alloc (Nat.le_refl _) _) 0) _ _ _ (Nat.zero_le _) (hc j u hu)) (avs_one xs) (by omega) (by unfold maxLen; omega) (by omega) (by simp; omega) _ rfl
    obtain ⟨g, cap, w', hr, own, gg, hat, hlt⟩ := hrun 32
    refine ⟨g, cap, w', fun ty => ?_, by simpa using own, gg, ?_⟩
    · have : (Builtin.append_ #[32, 32] ty #[.slice (some ⟨W.heap.size, 0, none⟩) 0 0, .slice (some ⟨b, o, none⟩) ul uc]).run Tryd.prog (W.alloc (.cells #[] 52)) = (Builtin.append_ #[32, 32] 32 #[.slice (some ⟨W.heap.size, 0, none⟩) 0 0, .slice (some ⟨b, o, none⟩) ul uc]).run Tryd.prog (W.alloc (.cells #[] 52)) := by simp only [Builtin.append_]
      rw [this, hr]
      simp
    · rcases hat with h | h
      · simp [Value.ownBlock] at h; omega
      · simp at h; omega
  · have hx0 : xs = [] := List.length_eq_zero_iff.1 (by omega)
    subst hx0
    have hul0 : ul = 0 := by simpa using hul
    subst hul0
    refine ⟨W.heap.size, 0, W.alloc (.cells #[] 52), fun ty => ?_, by simpa [avs] using own0, ⟨rfl, rfl, rfl, Nat.le_refl _, fun _ _ _ => rfl⟩, Nat.le_refl _⟩
    cases ua with
    | none => simp [Builtin.append_, run_underlying Tryd.underlying32, sizeOf, typeInfo, hi, Builtin.lenOf, Builtin.firstCells, storeCells]
    | some ad => simp [Builtin.append_, run_underlying Tryd.underlying32, sizeOf, typeInfo, hi, Builtin.lenOf, Builtin.firstCells, loadCells, loadCellsFrom, storeCells]

end Go.Proofs.YthjbgjfihfkpcaaDoor
