/- The rungs of a list: the specification's SureRungs. -/
import Derived.Test.YtcmmiamnbefefaaDoorCi
import Derived.Test.YtcmmiamnbefefaaDoorBg
namespace Go.Proofs.YtcmmiamnbefefaaDoor
open Go.RowKit
set_option linter.unusedVariables false

theorem chk_nonneg : ∀ (xs : List InstT) (n : Nat) (r : Rn), 0 ≤ (chk xs n r).1
  | [], n, r => by rw [chk]; split <;> simp
  | x :: xs, n, r => by
    rw [chk]
    split
    · exact chk_nonneg xs _ _
    · exact (wrong_in r (okT' x) x.code).1
theorem check_nonneg (xs : List InstT) : 0 ≤ (checkT xs).1 := by
  unfold checkT
  split
  · simp
  · exact chk_nonneg _ _ _
theorem insts_sub {W : World} {lo bk o len cap : Nat} {xs : List InstT} (h : InstsIs W lo (.slice (some ⟨bk, o, none⟩) len cap) xs) (fr k cap' : Nat) (hk : fr + k ≤ xs.length) : InstsIs W lo (.slice (some ⟨bk, o + fr * 3, none⟩) k cap') ((xs.drop fr).take k) := by
  obtain ⟨a, cp, e, hl, hx⟩ := h
  cases e
  have hlen : ((xs.drop fr).take k).length = k := by simp; omega
  refine ⟨some ⟨bk, o + fr * 3, none⟩, cap', by rw [hlen], by rw [hlen]; omega, fun j x hj => ?_⟩
  have hjk : j < k := by have := (List.getElem?_eq_some_iff.1 hj).1; omega
  rw [List.getElem?_take_of_lt hjk, List.getElem?_drop] at hj
  obtain ⟨b, o', cs, e, h1, h2, h3, h4⟩ := hx (fr + j) x hj
  simp only [Option.some.injEq, Addr.mk.injEq] at e
  obtain ⟨rfl, rfl, _⟩ := e
  refine ⟨bk, o + fr * 3, cs, rfl, h1, h2, ?_, h4⟩
  rw [show o + fr * 3 + j * 3 = o + (fr + j) * 3 by omega]
  exact h3
theorem cut_next {xs : List InstT} {n fr : Nat} {x : InstT} (h : xs[n]? = some x) (hf : fr ≤ n) : (xs.take (n + 1)).drop fr = (xs.take n).drop fr ++ [x] := by
  have hn := (List.getElem?_eq_some_iff.1 h).1
  rw [List.take_add_one, h]
  simp only [Option.toList_some]
  rw [List.drop_append_of_le_length (by rw [List.length_take]; omega)]
theorem cut_rung {xs : List InstT} {n fr : Nat} {x : InstT} (h : xs[n]? = some x) (hf : fr ≤ n) : (xs.drop fr).take (n + 1 - fr) = (xs.take n).drop fr ++ [x] := by
  rw [← cut_next h hf, List.drop_take]

set_option maxRecDepth 10000 in
set_option maxHeartbeats 8000000 in
theorem rungs_s (a : Option Addr) (cap : Nat) (xs : List InstT) (w : World) (lo : Nat) (hcap : xs.length ≤ cap) (hv : InstsIs w lo (.slice a xs.length cap) xs) (hsz : xs.length + (xs.map wI).sum ≤ 1048576) :
    Calls Tryd.prog 15 #[.slice a xs.length cap] w fun e w' => RungsR xs w e w' := by
  have hinfo2 : (Tryd.prog.info? 23).map (fun i => (i.zero, i.size, i.bytes)) = some (some (.slice none 0 0), 1, 24) := by kernel_rfl
  obtain ⟨tj, hi, hzz⟩ := Option.map_eq_some_iff.1 hinfo2
  simp only [Prod.mk.injEq] at hzz
  obtain ⟨hz0, hz1, hz2⟩ := hzz
  have HJ : Hid (Tryd.prog.info? 23 = some tj ∧ tj.zero = some (.slice none 0 0) ∧ tj.size = 1 ∧ tj.bytes = 24) := ⟨hi, hz0, hz1, hz2⟩
  clear hi hz0 hz1 hz2 hinfo2
  have hfld : ∀ (x y : Value) (W : World), (Instr.field 26 (.agg #[x, y]) 0).run Tryd.prog W = .ok x W := fun x y W => by kernel_rfl
  have g0 : Below w.heap.size w (w.alloc (.cells #[] 23)) := (Below.refl _ _).alloc (Nat.le_refl _) _
  have HCk : Hid (Calls Tryd.prog 9 #[.slice a xs.length cap] (w.alloc (.cells #[] 23)) fun e w' => CheckR xs (w.alloc (.cells #[] 23)) e w') := check_s _ xs _ lo (instsIs_move (Keeps.of_below g0 lo) (Nat.le_refl _) hv) (by omega)
  have HV : Hid (InstsIs w lo (.slice a xs.length cap) xs) := hv
  have HSz : Hid (∀ x ∈ xs, x.one.args.length ≤ 1048576) := fun x hx => by have h1 := sum_mem wI xs x hx; have h2 : wI x = x.one.args.length := rfl; omega
  have HO0 : Hid (SSOwn (w.alloc (.cells #[] 23)) w.heap.size [w.heap.size] (.slice (some ⟨w.heap.size, 0, none⟩) 0 0) []) := ⟨[], [], .nil, by have := World.ownsRow_made (base := w.heap.size) (e := 23) (size := 1) w #[] 0 (by simp) (by unfold maxLen; omega) rfl; simpa using this, rfl⟩
  have HG0 : Hid (Below w.heap.size w (w.alloc (.cells #[] 23))) := g0
  have hz : (w.alloc (.cells #[] 23)).heap.size = w.heap.size + 1 := by simp
  obtain ⟨len, HL⟩ : ∃ len, Hid (len = xs.length) := ⟨_, rfl⟩
  have hbig : len ≤ 1048576 := by rw [HL.out]; omega
  clear hv hsz g0
  obtain ⟨c, Hc⟩ : ∃ c, Hid (c = (checkT xs).1) := ⟨_, rfl⟩
  obtain ⟨at', Ha⟩ : ∃ c, Hid (c = (checkT xs).2) := ⟨_, rfl⟩
  have HCk2 : Hid (Calls Tryd.prog 9 #[.slice a xs.length cap] (w.alloc (.cells #[] 23)) fun e w' => e = .returned (.agg #[.int .i64 c, .int .i64 at']) ∧ Below (w.alloc (.cells #[] 23)).heap.size (w.alloc (.cells #[] 23)) w') := by rw [Hc.out, Ha.out]; exact HCk.out
  by_cases hck : checkT xs = (0, 0)
  case neg =>
    have hc0 : (0 : Int) < c := by
      have h1 := check_nonneg xs
      have h2 : (checkT xs).1 ≠ 0 := fun h => hck (check_zero h)
      rw [Hc.out]; omega
    have HF : Hid (∀ w', Below (w.alloc (.cells #[] 23)).heap.size (w.alloc (.cells #[] 23)) w' → RungsR xs w (.returned (.slice (some ⟨w.heap.size, 0, none⟩) 0 0)) w') := fun w' g => ⟨_, _, 0, 0, rfl, by rw [show rungsT xs = [] from if_neg hck]; exact HO0.out.later g, by simp, HG0.out.trans (g.mono (by simp))⟩
    rw [← HL.out] at HCk2 hcap ⊢
    clear hck HCk HV HO0 HG0
    go_enter Tryd.func15, Tryd.ntmps15
    go_wp2_with fail
    refine HCk2.out.mono ?_
    rintro e w1 ⟨rfl, g1⟩
    have HF1 : Hid (RungsR xs w (.returned (.slice (some ⟨w.heap.size, 0, none⟩) 0 0)) w1) := HF.out w1 g1
    clear HF g1
    go_wp2
    go_ret
    exact HF1.out
  have hlen := check_len hck
  have HRg : Hid (rungsT xs = rg (xs.drop 0) ((xs.take 0).drop 0) []) := by show rungsT xs = rg xs [] []; exact if_pos hck
  obtain rfl : c = 0 := by rw [Hc.out, hck]
  rw [← HL.out] at HCk2 hcap hlen ⊢
  clear hck HCk
  go_enter Tryd.func15, Tryd.ntmps15
  go_wp2_with fail
  refine HCk2.out.mono ?_
  rintro e w1 ⟨rfl, g1⟩
  have HB1 : Hid (Below w.heap.size w w1 ∧ SSOwn w1 w.heap.size [w.heap.size] (.slice (some ⟨w.heap.size, 0, none⟩) 0 0) []) := ⟨HG0.out.trans (g1.mono (by simp)), HO0.out.later g1⟩
  clear g1 HCk2 HO0 HG0
  go_wp2
  go_loopg [3, 4, 5] len (fun gg rv fv i wr => ∃ (n rm rcp fr : Nat) (ra : Option Addr) (out : List (List InstT)) (FR : List Nat), n + gg = len ∧ i = .int .i64 n ∧ rv = .slice ra rm rcp ∧ fv = .int .i64 fr ∧ rm ≤ n ∧ fr ≤ n ∧ Hid (rm = out.length ∧ SSOwn wr w.heap.size FR (.slice ra rm rcp) out ∧ FR.Nodup ∧ rungsT xs = rg (xs.drop n) ((xs.take n).drop fr) out ∧ Below w.heap.size w wr))
  case atStart => exact ⟨0, 0, 0, 0, some ⟨w.heap.size, 0, none⟩, [], [w.heap.size], by omega, rfl, rfl, rfl, by omega, by omega, rfl, HB1.out.2, by simp, HRg.out, HB1.out.1⟩
  case round =>
    clear HRg HB1
    obtain ⟨n, rm, rcp, fr, ra, out, FR, hn, rfl, rfl, rfl, hrm, hfr, HS⟩ := hrel
    by_cases hlt : n < len
    · have i1 : (n : Int) < (len : Int) := by omega
      have i3 : (0 : Int) ≤ (n : Int) := by omega
      obtain ⟨x, hxn⟩ : ∃ x, xs[n]? = some x := ⟨_, List.getElem?_eq_getElem (by have := HL.out; omega)⟩
      obtain ⟨a1, cap1, e1, _, hx⟩ := id HV.out
      cases e1
      obtain ⟨bk, o, cs, rfl, hlo, hcs, hrg, u, rfl, hR⟩ := hx n x hxn
      have hb := HS.out.2.2.2.2
      have cc : wr.cell? ⟨bk, o + n * 3, none⟩ = some (.int .i64 x.code) := (Keeps.of_below hb 0) _ _ _ (Nat.zero_le _) (by have := hrg 0 _ rfl; simpa using this)
      obtain ⟨c, Hcx⟩ : ∃ c, Hid (c = x.code) := ⟨_, rfl⟩
      rw [← Hcx.out] at cc
      by_cases hc11 : c = 11
      · have e11 : (c == 11) = true := by simp [hc11]
        have HRg2 : Hid (rungsT xs = rg (xs.drop (n + 1)) ((xs.take (n + 1)).drop (n + 1)) (out ++ [(xs.take n).drop fr ++ [x]])) := by
          show rungsT xs = _
          have hd : (xs.take (n + 1)).drop (n + 1) = [] := List.drop_eq_nil_of_le (by rw [List.length_take]; omega)
          rw [hd, HS.out.2.2.2.1, rg_end hxn (by rw [← Hcx.out]; exact hc11)]
        have HCp : Hid (Calls Tryd.prog 31 #[.slice (some ⟨bk, o + fr * 3, none⟩) (n + 1 - fr) (cap - fr)] wr fun e w' => ∃ (F : List Nat) (a : Option Addr) (m cp : Nat), e = .returned (.slice a m cp) ∧ m = (((xs.take n).drop fr) ++ [x]).length ∧ InstsOwn w' wr.heap.size F (.slice a m cp) ((xs.take n).drop fr ++ [x]) ∧ F.Nodup ∧ Below wr.heap.size wr w') := by
          have h1 := insts_sub (instsIs_move (Keeps.of_below hb lo) (Nat.le_refl _) HV.out) fr (n + 1 - fr) (cap - fr) (by have := HL.out; omega)
          rw [cut_rung hxn hfr] at h1
          refine copy_s _ _ wr lo h1 ?_ ?_
          · simp; omega
          · intro y hy
            rcases List.mem_append.1 hy with hy | hy
            · exact HSz.out y (List.mem_of_mem_take (List.mem_of_mem_drop hy))
            · simp at hy; rw [hy]; exact HSz.out x (List.mem_of_getElem? hxn)
        obtain ⟨rcs, FR', hE, hOw, hFR⟩ := id HS.out.2.1
        have hFRl := SSOwn.lt HS.out.2.1
        have HSS : Hid (rm = out.length ∧ Each (RungOwn wr w.heap.size) 1 FR' out rcs ∧ wr.ownsRow w.heap.size 23 1 (.slice ra rm rcp) out.length rcs ∧ FR = (Value.slice ra rm rcp).ownBlock.toList ++ FR' ∧ (∀ b ∈ FR, w.heap.size ≤ b ∧ b < wr.heap.size) ∧ FR.Nodup ∧ Below w.heap.size w wr) := ⟨HS.out.1, hE, hOw, hFR, hFRl, HS.out.2.2.1, hb⟩
        have j1 : (0 : Int) ≤ (fr : Int) := by omega
        have j2 : (fr : Int) ≤ (n : Int) + 1 := by omega
        have j3 : (n : Int) + 1 ≤ (cap : Int) := by omega
        clear hc11 hE hOw hFR hFRl hb hrg hcs hlo hR HS hx
        go_wp2_with fail
        refine HCp.out.mono ?_
        rintro e w5 ⟨F5, a5, m5, cp5, rfl, hm5, hC5, hF5, g5⟩
        obtain ⟨rung, Hrung⟩ : ∃ r, Hid (r = (xs.take n).drop fr ++ [x]) := ⟨_, rfl⟩
        rw [← Hrung.out] at hC5 HRg2
        have own7 : (w5.alloc (.cells #[.slice a5 m5 cp5] 23)).ownsRow w.heap.size 23 1 (.slice ra rm rcp) rm rcs := by have h0 := World.ownsRow.alloc (ownl HSS.out.2.2.1 g5) (.cells #[.slice a5 m5 cp5] 23); rwa [← HSS.out.1] at h0
        have news7 : ∀ (q : Nat) (v : Value), ([.slice a5 m5 cp5] : List Value)[q]? = some v → (w5.alloc (.cells #[.slice a5 m5 cp5] 23)).cell? ((⟨w5.heap.size, 0, none⟩ : Addr).add q) = some v := by
          intro q v hq
          match q with
          | 0 => simp at hq; subst hq; simp [Addr.add]
          | (j + 1) => simp at hq
        have hs6 : w.heap.size ≤ w5.heap.size := by have := HSS.out.2.2.2.2.2.2.size; have := g5.size; omega
        have HZ : Hid (∀ g2 cap2 w8, w8.ownsRow w.heap.size 23 1 (.slice (some ⟨g2, 0, none⟩) (rm + 1) cap2) (rm + 1) (rcs ++ [.slice a5 m5 cp5]) → (w5.alloc (.cells #[.slice a5 m5 cp5] 23)).grownBy w8 (Value.slice ra rm rcp).ownBlock → ((Value.slice ra rm rcp).ownBlock = some g2 ∨ g2 = (w5.alloc (.cells #[.slice a5 m5 cp5] 23)).heap.size) → ∃ FR2, (rm + 1 = (out ++ [rung]).length ∧ SSOwn w8 w.heap.size FR2 (.slice (some ⟨g2, 0, none⟩) (rm + 1) cap2) (out ++ [rung]) ∧ FR2.Nodup ∧ Below w.heap.size w w8)) := by
          intro g2 cap2 w8 o8 gg8 hat8
          obtain ⟨hrl, hE, hOw, hFR, hFRl, hFn, hb⟩ := HSS.out
          have gA : Below wr.heap.size wr (w5.alloc (.cells #[.slice a5 m5 cp5] 23)) := g5.alloc g5.size _
          rw [hrl] at o8
          have hC6 : InstsOwn (w5.alloc (.cells #[.slice a5 m5 cp5] 23)) w.heap.size F5 (.slice a5 m5 cp5) rung := insts_base (hC5.later ((Below.refl _ _).alloc (Nat.le_refl _) _)) hb.size
          have key := rung_end (cv := .slice a5 m5 cp5) (cur := rung) (hE.move fun f1 x1 c1 _ h2 => h2.move (row := none) (gbb gA) (fun b _ => by simp)) hFR (fun b hb' => by have := hFRl b hb'; have := gA.size; omega) hC6 (List.nodup_append.2 ⟨hFn, hF5, fun a ha b hb' e => by have := hFRl a ha; have := InstsOwn.lt hC5 b hb'; omega⟩) o8 gg8 hat8 (hb.trans (gA.mono hb.size))
          exact ⟨_, by rw [hrl]; simp, by rw [hrl]; exact key.1, key.2.1, key.2.2⟩
        clear hC5 hF5 g5 HSS hm5 HCp
        go_wp2_with (at_builtin; refine wpList_append_lies _ rfl _ _ 37 rfl w.heap.size 23 tj (.slice none 0 0) 1 24 Tryd.underlying37 HJ.out.1 HJ.out.2.1 HJ.out.2.2.1 HJ.out.2.2.2 rfl (by decide) _ rm rcs rfl own7 ⟨w5.heap.size, 0, none⟩ 1 1 [.slice a5 m5 cp5] rfl rfl news7 ?c2 (by omega) ?c3 ?c4 ?c5 _ rfl ?_)
        case c2 => intro v hu; simp at hu; rw [hu]; rfl
        case c3 => unfold maxLen; omega
        case c4 => omega
        case c5 => simp; omega
        intro g2 cap2 w8 own8 gg8 hat8 hlt8
        obtain ⟨FR2, hz⟩ := HZ.out g2 cap2 w8 own8 gg8 (by simpa using hat8)
        have HZZ : Hid (rm + 1 = (out ++ [rung]).length ∧ SSOwn w8 w.heap.size FR2 (.slice (some ⟨g2, 0, none⟩) (rm + 1) cap2) (out ++ [rung]) ∧ FR2.Nodup ∧ rungsT xs = rg (xs.drop (n + 1)) ((xs.take (n + 1)).drop (n + 1)) (out ++ [rung]) ∧ Below w.heap.size w w8) := ⟨hz.1, hz.2.1, hz.2.2.1, HRg2.out, hz.2.2.2⟩
        clear own7 news7 own8 gg8 hat8 hlt8 hz HZ
        go_wp2
        go_roundg (gk - 1)
        case measure => omega
        case rel => exact ⟨n + 1, rm + 1, cap2, n + 1, some ⟨g2, 0, none⟩, out ++ [rung], FR2, by omega, by simp, rfl, by simp, by omega, by omega, HZZ⟩
      · have e11 : (c == 11) = false := by simp [hc11]
        have HZZ : Hid (rm = out.length ∧ SSOwn wr w.heap.size FR (.slice ra rm rcp) out ∧ FR.Nodup ∧ rungsT xs = rg (xs.drop (n + 1)) ((xs.take (n + 1)).drop fr) out ∧ Below w.heap.size w wr) := ⟨HS.out.1, HS.out.2.1, HS.out.2.2.1, by rw [cut_next hxn hfr, HS.out.2.2.2.1]; exact rg_go hxn (by rw [← Hcx.out]; exact hc11), hb⟩
        clear hc11 hb hrg hcs hlo hR HS hx
        go_wp2
        go_roundg (gk - 1)
        case measure => omega
        case rel => exact ⟨n + 1, rm, rcp, fr, ra, out, FR, by omega, by simp, rfl, rfl, by omega, by omega, HZZ⟩
    · have i1 : ¬ ((n : Int) < (len : Int)) := by omega
      have HF : Hid (RungsR xs w (.returned (.slice ra rm rcp)) wr) := by
        obtain ⟨h1, h3, h5, h6, h7⟩ := HS.out
        refine ⟨FR, ra, rm, rcp, rfl, ?_, h5, h7⟩
        rw [h6, rg_nil (by rw [← HL.out]; omega)]
        exact h3
      clear HS
      go_wp2
      go_ret
      exact HF.out
end Go.Proofs.YtcmmiamnbefefaaDoor
